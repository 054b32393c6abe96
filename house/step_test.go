package house_test

import (
	"math"
	"testing"

	"cloakroom/api"
)

// P21.2: a Kind that there isn't does nothing, but that the time goes on.
func TestKindsThatAreNone(t *testing.T) {
	w := met(t, usual(2))
	w.does(0, begin(), write(1, 1, 5), commit())
	w.yes(tick(1))
	for _, kind := range []int{math.MinInt, -1, 15, 16, math.MaxInt} {
		w.no(api.Step{Kind: kind}, api.Step{Kind: kind, Client: 1, Lane: 2, N: 0, At: 3, Mask: 1, Op: read(1, 1)})
	}
}

// P21.2: StepDo of a client that runs is its Do, true where that has no error.
func TestDo(t *testing.T) {
	w := newWorld(t, usual(2))
	for _, o := range []api.Op{begin(), read(0, 0), write(0, 0, 1), commit(), abort(), {Kind: -1}} {
		w.no(do(0, o), do(1, o))
	}
	w.meets(1)
	w.no(do(1, read(0, 0)), do(1, write(0, 0, 1)), do(1, commit()), do(1, abort()), do(0, begin()))
	w.yes(do(1, begin()))
	w.no(do(1, begin()), do(1, api.Op{Kind: -1}), do(1, api.Op{Kind: 5}))
	w.no(do(1, read(-1, 0)), do(1, read(pages, 0)), do(1, read(0, -1)), do(1, write(0, objs, 1)))
	w.checkLens(nil)
	w.yes(do(1, read(2, 1)))
	w.checkLens(map[int]int{up(1): 1})
	w.checkWaits(1)
	w.no(do(1, read(2, 1)), do(1, commit()), do(1, abort()))
	w.calm()
	w.checkHas(1, 2, all, 0)
	w.checkWaits()
	w.yes(do(1, read(2, 3)))
	w.checkLens(nil)
	w.yes(do(1, write(2, 1, 4)))
	w.checkLens(map[int]int{up(1): 1})
	w.calm()
	w.checkHas(1, 2, all, all)
	w.yes(do(1, commit()))
	w.checkWaits(1)
	w.calm()
	w.checkWaits(1)
	w.synced()
	w.checkWaits()
	w.yes(do(1, begin()), do(1, abort()))
	w.checkLens(nil)
}

// P21.2: StepTick of a client that runs: it asks for a session, or sends again what is under way.
func TestTick(t *testing.T) {
	w := newWorld(t, usual(3))
	w.yes(tick(2))
	w.checkLens(map[int]int{up(2): 1})
	w.yes(tick(2), tick(0))
	w.checkLens(map[int]int{up(2): 2, up(0): 1})
	w.calm()
	w.checkClient(0, true, 1, true)
	w.checkClient(1, true, 1, false)
	w.checkClient(2, true, 1, true)
	w.yes(do(2, begin()), do(2, read(1, 1)), drop(up(2), 0))
	w.checkLens(nil)
	w.yes(tick(2))
	w.checkLens(map[int]int{up(2): 1})
	w.calm()
	w.checkHas(2, 1, all, 0)
}

// P21.2: StepHostTick is the Host's Tick: all sessions are sent to, and the silent ones end.
func TestHostTick(t *testing.T) {
	w := newWorld(t, usual(3))
	w.yes(hostTick())
	w.checkLens(nil)
	w.meets(0)
	w.meets(2)
	w.yes(hostTick())
	w.checkLens(map[int]int{down(0): 1, down(2): 1})
	w.calm()
	for range 4 {
		w.yes(hostTick(), drop(down(0), 0), drop(down(2), 0), tick(2))
		w.calm()
	}
	w.checkClient(0, true, 1, true)
	w.yes(hostTick())
	w.checkClient(0, true, 1, false)
	w.checkClient(2, true, 1, true)
	w.checkLens(map[int]int{down(2): 1})
	w.yes(fall(0, 0))
	w.no(hostTick())
	w.checkLens(map[int]int{down(2): 1})
}

// P21.2: StepSync is the Host's Sync: what is committed is told.
func TestSync(t *testing.T) {
	w := met(t, usual(2))
	w.yes(syncs())
	w.checkLens(nil)
	w.does(0, begin(), write(1, 1, 5), commit())
	w.does(1, begin(), write(2, 1, 5), commit())
	w.checkWaits(0, 1)
	w.yes(syncs())
	w.checkLens(map[int]int{down(0): 1, down(1): 1})
	w.checkWaits(0, 1)
	w.yes(deliver(down(1), 0))
	w.checkWaits(0)
	w.calm()
	w.checkWaits()
	w.yes(fall(0, 0))
	w.no(syncs())
	w.yes(rise())
	w.checkValue(1, 1, 5)
	w.checkValue(2, 1, 5)
}

// P21.2: StepCheckpoint makes all safe and tells nobody; where the log has no room for it, it is false, and all is safe all the same.
func TestCheckpoint(t *testing.T) {
	for _, fits := range []bool{true, false} {
		w := met(t, usual(1))
		w.does(0, begin(), write(1, 1, 5), commit())
		if !fits {
			w.yes(room(0))
		}
		w.step(checkpoint(), fits)
		w.checkLens(nil)
		w.checkWaits(0)
		if len(w.h.Logged()) != 1 {
			t.Errorf("behind a checkpoint %+v is logged", w.h.Logged())
		}
		w.yes(fall(0, 0))
		w.no(checkpoint())
		w.yes(rise())
		w.checkValue(1, 1, 5)
		if len(w.h.Logged()) != 1 {
			t.Errorf("behind a fall %+v is logged", w.h.Logged())
		}
	}
}

// P21.2: a checkpoint makes room on the log: without one there is room for two commits.
func TestCheckpointMakesRoom(t *testing.T) {
	for _, many := range []int{0, 1} {
		c := usual(1)
		c.Room = 100
		w := met(t, c)
		for k := range 4 {
			w.does(0, begin(), write(1, 1, complex(float64(k), 0)), commit())
			w.synced()
			for range many {
				w.yes(checkpoint())
			}
		}
		want := []int{2, 4}[many]
		if len(w.h.Logged()) != want {
			t.Errorf("with %d checkpoints each %d are logged, not %d", many, len(w.h.Logged()), want)
		}
	}
}

// P21.2: StepRoom is always something, and the tape's Limit is N: what is there stays.
func TestStepRoom(t *testing.T) {
	w := met(t, usual(1))
	w.does(0, begin(), write(1, 1, 5), commit())
	w.synced()
	for _, n := range []int{math.MinInt, -1, 0, 1, 30} {
		w.yes(room(n))
		w.does(0, begin(), write(1, 1, 6), commit())
		w.checkWaits()
		w.checkValue(1, 1, 5)
		if len(w.h.Logged()) != 1 {
			t.Errorf("with room for %d %+v is logged", n, w.h.Logged())
		}
	}
	for k, n := range []int{200, 20000, 20001, math.MaxInt} {
		w.yes(fall(0, 0), room(n), rise())
		w.meets(0)
		v := complex(float64(k), 1)
		w.does(0, begin(), write(1, 1, v), commit())
		w.synced()
		w.checkValue(1, 1, v)
	}
	w.yes(fall(0, 0), room(0), rise())
	w.checkValue(1, 1, complex(3, 1))
}

// P21.2: StepCrash: the client doesn't run any more. StepStart: it does again, with its last epoch and 1.
func TestCrashAndStart(t *testing.T) {
	w := met(t, usual(3))
	w.does(1, begin(), write(1, 1, 5))
	w.no(start(0), start(1), start(2))
	w.yes(crash(1))
	w.checkClient(1, false, 1, false)
	w.checkHas(1, 1, 0, 0)
	w.no(crash(1), tick(1), do(1, begin()), do(1, abort()), do(1, read(1, 1)))
	w.checkClient(0, true, 1, true)
	w.checkClient(2, true, 1, true)
	w.yes(start(1))
	w.checkClient(1, true, 2, false)
	w.no(start(1), do(1, begin()))
	w.checkHas(1, 1, 0, 0)
	w.yes(crash(1))
	w.checkClient(1, false, 2, false)
	w.yes(start(1))
	w.meets(1)
	w.checkClient(1, true, 3, true)
	w.does(1, begin(), read(1, 1))
	w.checkWaits()
	w.checkHas(1, 1, all, 0)
}

// P21.2: a client that started has room for Many pages, as ever.
func TestStartMany(t *testing.T) {
	w := met(t, usual(1))
	w.yes(crash(0), start(0))
	w.meets(0)
	for page := range pages {
		w.does(0, begin(), read(page, 0), abort())
	}
	for page := range pages {
		if there := w.h.Copies(0, page) != 0; there != (page >= 3) {
			t.Errorf("page %d is there: %t", page, there)
		}
	}
}

// P21.2: the last epoch is that of the Guest as long as it runs, and stays when it doesn't any more.
func TestLastEpoch(t *testing.T) {
	w := met(t, usual(2))
	for boot := 2; boot <= 4; boot++ {
		w.yes(fall(0, 0), rise(), tick(0))
		w.calm()
		w.checkClient(0, true, boot, true)
	}
	w.yes(crash(0))
	w.checkClient(0, false, 4, false)
	w.yes(start(0))
	w.checkClient(0, true, 5, false)
	w.checkClient(1, true, 1, false)
}

// P21.2: of a client that there isn't, nothing can be done.
func TestClientsThatAreNone(t *testing.T) {
	for many := 1; many <= clients; many++ {
		w := met(t, usual(many))
		w.does(0, begin())
		for _, c := range wrong(many) {
			w.no(do(c, begin()), do(c, read(0, 0)), tick(c), crash(c), start(c))
		}
		w.yes(crash(0))
		for _, c := range wrong(many) {
			w.no(start(c), crash(c))
		}
	}
}

// P21.2: StepFall, where the server is up; StepRise, where it isn't: BOOT is one more.
func TestFallAndRise(t *testing.T) {
	w := met(t, usual(2))
	w.no(rise())
	w.does(0, begin(), write(1, 1, 5), commit())
	w.synced()
	for boot := 1; boot <= 4; boot++ {
		w.checkServer(true, boot)
		w.yes(fall(0, 0))
		w.checkServer(false, boot)
		w.no(fall(0, 0), fall(9, 9), syncs(), hostTick(), checkpoint())
		w.yes(rise())
		w.checkServer(true, boot+1)
		w.no(rise())
		w.checkValue(1, 1, 5)
		// The clients don't know of it yet.
		w.checkClient(1, true, boot, false)
		w.meets(1)
	}
}

// P21.2: StepFall keeps N bytes of what isn't safe on the tape. A Batch without Puts has 20 bytes, one with one Put 42.
func TestFallKeeps(t *testing.T) {
	for _, k := range []struct{ keep, logged int }{{math.MinInt, 1}, {-1, 1}, {0, 1}, {1, 1}, {41, 1}, {42, 2}, {43, 2}, {61, 2}, {62, 3}, {63, 3}, {math.MaxInt, 3}} {
		for _, mask := range []int{0, 1, 63, -1, math.MinInt, math.MaxInt} {
			w := met(t, usual(3))
			w.does(0, begin(), write(1, 1, 5), commit())
			w.synced()
			w.does(1, begin(), write(2, 3, 6), commit())
			w.does(2, begin(), commit())
			w.yes(fall(k.keep, mask), rise())
			if list := w.h.Logged(); len(list) != k.logged {
				t.Errorf("a fall that keeps %d: %+v", k.keep, list)
			}
			var want [pages]api.Page
			want[1] = api.Page{LSN: 1, Objs: [objs]complex128{1: 5}}
			if k.logged > 1 {
				want[2] = api.Page{LSN: 2, Objs: [objs]complex128{3: 6}}
			}
			w.checkMap(want)
		}
	}
}

// P21.2, P9.4: whatever sectors a fall keeps, the pages are as they were committed: of those that were written and of those that
// weren't, ahead of a checkpoint and behind it.
func TestFallMasks(t *testing.T) {
	for mask := range 64 {
		for _, checked := range []bool{true, false} {
			c := usual(1)
			c.Frames, c.Many = 1, pages
			w := met(t, c)
			var want [pages]api.Page
			for lsn := 1; lsn <= 3; lsn++ {
				w.does(0, begin())
				for page := range pages {
					v := complex(float64(lsn), float64(page))
					w.does(0, write(page, lsn, v))
					want[page].LSN, want[page].Objs[lsn] = lsn, v
				}
				w.does(0, commit())
				w.synced()
				if checked && lsn == 2 {
					w.yes(checkpoint())
				}
			}
			w.yes(fall(0, mask), rise())
			w.checkMap(want)
		}
	}
}

// P21.2: what is on its way stays there when the server falls, and when a client does.
func TestWayStays(t *testing.T) {
	w := met(t, usual(2))
	w.yes(tick(0), tick(1), hostTick())
	want := map[int]int{up(0): 1, up(1): 1, down(0): 1, down(1): 1}
	w.checkLens(want)
	w.yes(crash(0))
	w.checkLens(want)
	w.yes(fall(0, 0))
	w.checkLens(want)
	w.yes(start(0), rise())
	w.checkLens(want)
}
