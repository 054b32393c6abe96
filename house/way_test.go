package house_test

import (
	"math"
	"testing"

	"cloakroom/api"
)

// P21.2: StepDeliver, on each lane: the server gets what is on those to it, a client what is on that to it.
func TestDeliver(t *testing.T) {
	w := newWorld(t, usual(clients))
	for c := range clients {
		w.yes(tick(c))
	}
	for c := range clients {
		w.yes(deliver(up(c), 0))
		if w.h.Len(up(c)) != 0 || w.h.Len(down(c)) != 1 {
			t.Errorf("behind the lane of client %d there are %d and %d", c, w.h.Len(up(c)), w.h.Len(down(c)))
		}
		w.checkClient(c, true, 1, false)
	}
	for c := clients - 1; c >= 0; c-- {
		w.yes(deliver(down(c), 0))
		w.checkClient(c, true, 1, true)
		w.checkLens(map[int]int{down(0): min(c, 1), down(1): min(max(c-1, 0), 1), down(2): min(max(c-2, 0), 1)})
	}
}

// P21.2: of the last frame and of one ahead of it all steps do something; of one behind it, or of a lane that there isn't, none.
func TestFramesThatAreNone(t *testing.T) {
	of := func(lane, n int) []api.Step {
		return []api.Step{deliver(lane, n), drop(lane, n), double(lane, n), late(lane, n), spoil(lane, n, 3, 1)}
	}
	for c := range clients {
		for k := range of(0, 0) {
			for n := range 3 {
				w := newWorld(t, usual(clients))
				w.yes(tick(c), tick(c), tick(c), of(up(c), n)[k])
			}
		}
	}
	w := newWorld(t, usual(clients))
	w.yes(tick(1), tick(1), tick(1))
	for lane := range lanes {
		for _, n := range wrong(3) {
			w.no(of(lane, n)...)
		}
		if lane != up(1) {
			w.no(of(lane, 0)...)
		}
	}
	for _, lane := range wrong(lanes) {
		w.no(of(lane, 0)...)
	}
	w.checkLens(map[int]int{up(1): 3})
}

// P21.2: a step takes the frame at N, and no other one.
func TestPlaces(t *testing.T) {
	for n := range 3 {
		w := newWorld(t, usual(1))
		// Three frames of the epochs 1, 2 and 3.
		w.yes(tick(0), crash(0), start(0), tick(0), crash(0), start(0), tick(0))
		w.yes(deliver(up(0), n))
		w.checkLens(map[int]int{up(0): 2, down(0): 1})
		w.yes(deliver(down(0), 0))
		w.checkClient(0, true, 3, n == 2)

		w = newWorld(t, usual(1))
		w.yes(tick(0), crash(0), start(0), tick(0), crash(0), start(0), tick(0))
		w.yes(drop(up(0), n))
		w.checkLens(map[int]int{up(0): 2})
		w.yes(deliver(up(0), 1), deliver(down(0), 0))
		w.checkClient(0, true, 3, n != 2)
	}
}

// P21.2: a frame that is spoilt is taken, and true, and that is all; there is another one soon.
func TestSpoilt(t *testing.T) {
	w := newWorld(t, usual(clients))
	for c := range clients {
		w.yes(tick(c), spoil(up(c), 0, 9, 1))
		w.no(spoil(up(c), 0, 9, 1), spoil(up(c), 0, 10, 3))
		w.yes(deliver(up(c), 0))
		w.checkLens(nil)
		w.yes(tick(c), deliver(up(c), 0), spoil(down(c), 0, 0, math.MaxUint16))
		w.no(spoil(down(c), 0, 0, math.MaxUint16))
		w.yes(deliver(down(c), 0))
		w.checkLens(nil)
		w.checkClient(c, true, 1, false)
		w.meets(c)
	}
}

// P21.2: Spoil has At and Mask: a bare frame has 20 bytes, so the bits from 0 to 159.
func TestSpoilBits(t *testing.T) {
	for _, k := range []struct {
		at   int
		mask uint16
		ok   bool
	}{{0, 1, true}, {159, 1, true}, {144, 1 << 15, true}, {144, math.MaxUint16, true}, {8, 0, false}, {160, 1, false}, {159, 2, false}, {145, 1 << 15, false}, {-1, 2, false}, {math.MinInt, 1, false}, {math.MaxInt, 1, false}} {
		w := newWorld(t, usual(1))
		w.yes(tick(0), tick(0))
		w.step(spoil(up(0), 1, k.at, k.mask), k.ok)
		// The other one isn't spoilt: it is to be.
		w.yes(spoil(up(0), 0, 5, 1), deliver(up(0), 0), deliver(up(0), 0))
		if there := w.h.Len(down(0)) == 1; there == k.ok {
			t.Errorf("bit %d and on, mask %x: the server answers: %t", k.at, k.mask, there)
		}
	}
}

// P21.2: what is delivered to a client that doesn't run is taken, and true, and that is all.
func TestDeliverToNoClient(t *testing.T) {
	w := newWorld(t, usual(2))
	w.yes(tick(1), deliver(up(1), 0), double(down(1), 0), crash(1))
	w.checkLens(map[int]int{down(1): 2})
	w.yes(deliver(down(1), 0))
	w.checkLens(map[int]int{down(1): 1})
	w.checkClient(1, false, 1, false)
	// It is of another epoch then.
	w.yes(start(1), deliver(down(1), 0))
	w.checkLens(nil)
	w.checkClient(1, true, 2, false)
}

// P21.2: what is delivered to a server that isn't up is taken, and true, and that is all.
func TestDeliverToNoServer(t *testing.T) {
	w := newWorld(t, usual(2))
	w.yes(tick(1), tick(1), tick(0), fall(0, 0), deliver(up(1), 1))
	w.checkLens(map[int]int{up(1): 1, up(0): 1})
	w.yes(rise())
	w.checkLens(map[int]int{up(1): 1, up(0): 1})
	w.yes(deliver(up(0), 0))
	w.checkLens(map[int]int{up(1): 1, down(0): 1})
	w.calm()
	w.checkClient(0, true, 1, true)
	w.checkClient(1, true, 1, true)
}

// P21.2: a client gets what is on its way while the server isn't up.
func TestDeliverWithoutServer(t *testing.T) {
	w := met(t, usual(1))
	w.does(0, begin())
	w.yes(do(0, read(1, 1)), deliver(up(0), 0), fall(0, 0))
	w.checkWaits(0)
	w.yes(deliver(down(0), 0))
	w.checkWaits()
	w.checkHas(0, 1, all, 0)
	// That it came is told, but nobody hears it.
	w.checkLens(map[int]int{up(0): 1})
	w.yes(do(0, read(1, 2)), deliver(up(0), 0))
	w.checkLens(nil)
}

// P21.2: Double: the frame comes twice, and does no more than one.
func TestDouble(t *testing.T) {
	w := met(t, usual(1))
	w.does(0, begin())
	w.yes(do(0, write(1, 1, 5)), double(up(0), 0), double(up(0), 1))
	w.checkLens(map[int]int{up(0): 3})
	w.calm()
	w.yes(do(0, commit()), double(up(0), 0))
	w.calm()
	if list := w.h.Logged(); len(list) != 1 {
		t.Errorf("it is logged: %+v", list)
	}
	w.yes(tick(0), spoil(up(0), 0, 1, 1), double(up(0), 0))
	w.no(spoil(up(0), 1, 1, 1))
}

// P21.2: Late: the frame is behind the others.
func TestLate(t *testing.T) {
	for _, turned := range []bool{false, true} {
		w := newWorld(t, usual(1))
		w.yes(tick(0), crash(0), start(0), tick(0))
		if turned {
			w.yes(late(up(0), 0))
		}
		w.checkLens(map[int]int{up(0): 2})
		w.yes(deliver(up(0), 0), deliver(down(0), 0))
		w.checkClient(0, true, 2, turned)
		w.yes(late(up(0), 0))
	}
}

// P21.2: Drop: the frame is lost, and is sent again with the next Tick.
func TestDrop(t *testing.T) {
	w := newWorld(t, usual(1))
	w.yes(tick(0), drop(up(0), 0))
	w.checkLens(nil)
	w.no(drop(up(0), 0))
	w.yes(tick(0), deliver(up(0), 0), drop(down(0), 0))
	w.checkClient(0, true, 1, false)
	w.meets(0)
}

// fills a lane with doubles of its first frame.
func (w *world) fills(lane, many int) {
	w.t.Helper()
	for w.h.Len(lane) < many {
		w.yes(double(lane, 0))
	}
}

// P21.2: a lane has room for 200: a Double of one more is none.
func TestDoubleOfFull(t *testing.T) {
	w := newWorld(t, usual(2))
	w.yes(tick(1))
	w.fills(up(1), most)
	w.no(double(up(1), 0), double(up(1), most-1))
	w.yes(late(up(1), 0), drop(up(1), 7), double(up(1), 7))
	w.no(double(up(1), 0))
	w.checkLens(map[int]int{up(1): most})
}

// What is sent where there is no room is lost: a client's.
func TestFullUp(t *testing.T) {
	for _, many := range []int{most, most - 1} {
		w := newWorld(t, usual(1))
		w.yes(tick(0))
		w.fills(up(0), many)
		w.yes(crash(0), start(0), tick(0))
		w.checkLens(map[int]int{up(0): most})
		w.calm()
		w.checkClient(0, true, 2, many < most)
	}
}

// What is sent where there is no room is lost: the server's.
func TestFullDown(t *testing.T) {
	for _, many := range []int{most, most - 1} {
		w := met(t, usual(1))
		w.does(0, begin(), write(1, 1, 5), commit())
		w.yes(hostTick())
		w.fills(down(0), many)
		w.yes(syncs())
		w.checkLens(map[int]int{down(0): most})
		w.calm()
		if w.h.Waits(0) != (many == most) {
			t.Errorf("with %d on the lane it waits: %t", many, w.h.Waits(0))
		}
		w.yes(hostTick())
		w.calm()
		w.checkWaits()
	}
}

// Of two packets that are sent where there is room for one, the first one comes, and the second one is lost.
func TestNearlyFull(t *testing.T) {
	w := met(t, usual(2))
	w.yes(hostTick(), drop(down(1), 0))
	w.fills(down(0), most-1)
	w.yes(do(0, begin()), do(0, read(1, 0)), deliver(up(0), 0), drop(down(0), most-1))
	// Its Grant is under way, and a Call behind it.
	w.yes(do(1, begin()), do(1, write(1, 0, 5)), deliver(up(1), 0))
	w.checkLens(map[int]int{down(0): most, down(1): 1})
	for range most {
		w.yes(deliver(down(0), 0))
	}
	w.checkHas(0, 1, all, 0)
	w.checkWaits(1)
	// A Call that had come would be put off, and given way to now.
	w.yes(do(0, abort()))
	w.checkHas(0, 1, all, 0)
	w.calm()
	w.checkHas(0, 1, all-1, 0)
	w.checkHas(1, 1, all, 1)
	w.checkWaits()
}

// What has no room on one lane doesn't keep others from what is theirs.
func TestFullLaneAlone(t *testing.T) {
	w := met(t, usual(3))
	w.yes(hostTick(), drop(down(0), 0), drop(down(2), 0))
	w.fills(down(1), most)
	w.yes(hostTick())
	w.checkLens(map[int]int{down(0): 1, down(1): most, down(2): 1})
}
