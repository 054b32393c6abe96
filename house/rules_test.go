package house_test

import (
	"fmt"
	"math"
	"slices"
	"testing"

	"cloakroom/api"
	"cloakroom/house"
)

// row is a row of steps that hangs on where the noise begins alone, and all that is told on the way.
func row(t *testing.T, seed int, between func(h *house.House, s api.Step)) ([]bool, []shown) {
	t.Helper()
	n := noise(1 + 977*seed)
	c := api.Config{Clients: 1 + seed%4, Frames: 1 + seed%6, Many: 1 + seed%5, Patience: 20, Room: 20000}
	b := newPair(t, c, &seen{})
	var answers []bool
	var list []shown
	for range 500 {
		s := n.step(b.p, seed%5)
		between(b.h, s)
		b.p.Step(s)
		answers = append(answers, b.h.Step(s))
		list = append(list, look(b.h))
	}
	return answers, append(list, show(b.h))
}

// checkSameRow makes a row with and without something in between.
func checkSameRow(t *testing.T, seed int, between func(h *house.House, s api.Step)) {
	t.Helper()
	answers, list := row(t, seed, func(*house.House, api.Step) {})
	again, listAgain := row(t, seed, between)
	if !slices.Equal(answers, again) || !slices.Equal(list, listAgain) {
		t.Errorf("row %d: other answers the second time", seed)
	}
}

// P2: the same steps on two worlds of one Config lead to the same, whatever happens to other worlds in between.
func TestHousesAreApart(t *testing.T) {
	for seed := range 40 {
		other := newWorld(t, usual(1+seed%4))
		checkSameRow(t, seed, func(_ *house.House, s api.Step) {
			other.h.Step(s)
			s.Kind = (s.Kind + seed) % 15
			other.h.Step(s)
			other.h.Map()
			newWorld(t, usual(2)).h.Step(s)
		})
	}
}

// P2: two worlds don't touch each other, also while something is on its way in both.
func TestTwoHouses(t *testing.T) {
	a, b := met(t, usual(2)), met(t, usual(2))
	for _, w := range []*world{a, b} {
		w.commits(0, 1, 1, 5)
		w.yes(do(1, begin()), do(1, read(1, 1)))
	}
	before := show(b.h)
	a.synced()
	a.does(0, begin(), write(2, 2, 6))
	a.yes(fall(0, 0), tick(0), crash(1), drop(up(0), 0))
	if show(b.h) != before {
		t.Error("steps of one world have changed the other")
	}
	b.calm()
	b.synced()
	b.checkHas(1, 1, all, 0)
	b.checkServer(true, 1)
	b.checkClient(1, true, 1, true)
	b.checkValue(1, 1, 5)
}

// P2: asking for what is there changes nothing, however often: the rows are the same with and without. (Of Map see the next one.)
func TestAskingChangesNothing(t *testing.T) {
	t.Parallel()
	for seed := range 40 {
		checkSameRow(t, seed, func(h *house.House, _ api.Step) {
			time := h.Time()
			before := show(h)
			for range 2 {
				if show(h) != before || h.Time() != time {
					t.Fatal("asked again, it tells something else")
				}
			}
			for _, n := range wrong(lanes) {
				h.Len(n)
				h.Up(n)
				h.Waits(n)
				h.Live(n)
				h.Epoch(n)
				h.Copies(n, 0)
				h.Own(0, n)
			}
		})
	}
}

// P21.5: Map is the Store's: with a frame for each page it changes nothing, and without a server it never does.
func TestMapChangesNothing(t *testing.T) {
	for seed := 5; seed < 60; seed += 6 {
		checkSameRow(t, seed, func(h *house.House, _ api.Step) { h.Map() })
	}
	for seed := range 40 {
		checkSameRow(t, seed, func(h *house.House, _ api.Step) {
			if h.HostUp() {
				return
			}
			if list, e := h.Map(); e != api.ErrHouse || len(list) > 0 {
				t.Errorf("Map without a server: %+v %d", list, e)
			}
		})
	}
}

// nothings are steps that do nothing in this state: that they are false is looked at, and that nothing that is told changes.
func nothings(h *house.House, seed int) []api.Step {
	c := 1 + seed%4
	list := []api.Step{{Kind: -1}, {Kind: 15}, tick(-1), crash(c), start(c), start(-1), do(c, begin()), deliver(-1, 0), deliver(lanes, 0)}
	for lane := range lanes {
		many := h.Len(lane)
		list = append(list, deliver(lane, many), drop(lane, -1), late(lane, many), double(lane, many), spoil(lane, many, 0, 1), spoil(lane, 0, 0, 0), spoil(lane, 0, -1, 1))
	}
	for n := range c {
		if h.Up(n) {
			list = append(list, start(n), do(n, api.Op{Kind: 5}), do(n, read(6, 0)))
		} else {
			list = append(list, crash(n), tick(n), do(n, begin()), do(n, commit()))
		}
	}
	if h.HostUp() {
		return append(list, rise())
	}
	return append(list, fall(99, 63), syncs(), checkpoint(), hostTick())
}

// P21.2: a step that is false changes nothing but the time: the rows are the same with and without, but for the times.
func TestFalseChangesNothing(t *testing.T) {
	t.Parallel()
	timeless := func(list []shown) []shown {
		for k := range list {
			list[k].deals = ""
		}
		return list
	}
	for seed := range 40 {
		answers, list := row(t, seed, func(*house.House, api.Step) {})
		again, listAgain := row(t, seed, func(h *house.House, _ api.Step) {
			for _, s := range nothings(h, seed) {
				before, time := look(h), h.Time()
				if h.Step(s) || look(h) != before || h.Time() != time+1 {
					t.Errorf("row %d: %+v does something", seed, s)
				}
			}
		})
		if !slices.Equal(answers, again) || !slices.Equal(timeless(list), timeless(listAgain)) {
			t.Errorf("row %d: other answers the second time", seed)
		}
	}
}

// P1: every call ends without a panic at all arguments.
func TestAllArguments(t *testing.T) {
	numbers := []int{math.MinInt, math.MinInt + 1, -16777216, -1, 0, 1, 2, 3, 4, 5, 6, 7, 8, 199, 200, 201, 16777215, 16777216, math.MaxInt - 1, math.MaxInt}
	for _, a := range numbers {
		for _, b := range numbers {
			house.New(api.Config{Clients: a, Frames: b, Many: a, Patience: b, Room: a})
			house.New(api.Config{Clients: 1, Frames: a, Many: 1, Patience: b, Room: b})
		}
	}
	for k, w := range states(t) {
		for _, a := range numbers {
			for _, b := range numbers {
				useAll(w.h, a, b)
			}
		}
		if w.h.Time() == 0 {
			t.Errorf("world %d had no steps", k)
		}
	}
}

// states are worlds: a new one, one in which all is going on, one without a server, and one without clients.
func states(t *testing.T) []*world {
	t.Helper()
	busy := func() *world {
		w := met(t, usual(3))
		w.commits(0, 1, 1, 5)
		w.does(1, begin(), read(1, 1))
		w.yes(do(2, begin()), do(2, write(1, 1, 6)), tick(0), tick(0), tick(0), hostTick(), spoil(up(0), 1, 3, 1))
		return w
	}
	fallen, left := busy(), busy()
	fallen.yes(fall(3, 3))
	left.yes(crash(0), crash(1), crash(2))
	return []*world{newWorld(t, usual(4)), busy(), fallen, left}
}

// useAll makes all calls with these numbers: nothing of it may panic.
func useAll(h *house.House, a, b int) {
	h.Len(a)
	h.Up(a)
	h.Waits(a)
	h.Epoch(a)
	h.Live(a)
	h.Copies(a, b)
	h.Own(a, b)
	h.HostUp()
	h.Boot()
	for kind := -1; kind <= 15; kind++ {
		o := api.Op{Kind: a, Page: b, Obj: a, Value: complex(math.NaN(), math.Inf(-1))}
		h.Step(api.Step{Kind: kind, Client: a, Lane: b, N: a, At: b, Mask: uint16(a), Op: o})
		h.Step(api.Step{Kind: kind, Client: 1, Lane: 2, N: a, At: b, Mask: math.MaxUint16, Op: o})
		o.Kind = api.OpRead
		h.Step(api.Step{Kind: kind, Client: 2, Lane: a, N: b, At: a, Mask: 1, Op: o})
	}
	h.Step(api.Step{Kind: a, Client: b, Lane: a, N: b})
	h.Map()
	h.Deals()
	h.Logged()
}

// spoils writes over all that was answered, deep inside and spare room too.
func spoils(deals []api.Deal, logged []api.Batch, list []api.Page) {
	deals, logged, list = deals[:cap(deals)], logged[:cap(logged)], list[:cap(list)]
	for k := range deals {
		deeds := deals[k].Deeds[:cap(deals[k].Deeds)]
		for i := range deeds {
			deeds[i] = wrote(9, 9, 99)
		}
		deals[k] = api.Deal{Client: 9, Epoch: 9, Txn: 9, Began: 9, Ended: 9, State: 9}
	}
	for k := range logged {
		puts := logged[k].Puts[:cap(logged[k].Puts)]
		for i := range puts {
			puts[i] = put(9, 9, 99)
		}
		logged[k] = batch(9, 9, 9, 9)
	}
	for k := range list {
		list[k] = api.Page{LSN: 99, Objs: [objs]complex128{99, 99, 99, 99}}
	}
}

// An answer is new memory: written over, deep inside and spare room too, it changes neither the world nor a later answer.
func TestAnswersAreNewMemory(t *testing.T) {
	for seed := 5; seed < 100; seed += 6 {
		checkSameRow(t, seed, func(h *house.House, _ api.Step) {
			deals, logged := h.Deals(), h.Logged()
			list, _ := h.Map()
			spoils(deals, logged, list)
		})
	}
	w := met(t, usual(1))
	w.commits(0, 1, 1, 5)
	deals, logged := fmt.Sprintf("%+v", w.h.Deals()), fmt.Sprintf("%+v", w.h.Logged())
	pagesTold, _ := w.h.Map()
	before := slices.Clone(pagesTold)
	spoils(w.h.Deals(), w.h.Logged(), pagesTold)
	if now, _ := w.h.Map(); fmt.Sprintf("%+v", w.h.Deals()) != deals || fmt.Sprintf("%+v", w.h.Logged()) != logged || !slices.Equal(now, before) {
		t.Error("written over, an answer has changed a later one")
	}
}

// No two lists of one answer share memory, spare room too.
func TestListsOfOneAnswerAreApart(t *testing.T) {
	w := met(t, usual(2))
	for k := range 4 {
		w.does(k%2, begin(), write(1, 1, 5), write(1, 2, 6), read(1, 3), commit())
		w.synced()
	}
	want := w.h.Deals()
	for k := range want {
		deals, logged := w.h.Deals(), w.h.Logged()
		spoils(deals[k:k+1:k+1], logged[k:k+1:k+1], nil)
		for i := range want {
			if i != k && (!sameDeal(deals[i], want[i]) || !sameBatch(logged[i], w.h.Logged()[i])) {
				t.Errorf("written over, number %d of an answer has changed number %d", k, i)
			}
		}
	}
}

// What was answered stays as it was, whatever comes behind it.
func TestAnswersStay(t *testing.T) {
	for seed := range 30 {
		var kept []func() bool
		row(t, seed, func(h *house.House, s api.Step) {
			if s.Kind != api.StepDo && s.Kind != api.StepDeliver {
				return
			}
			deals, logged := h.Deals(), h.Logged()
			told := fmt.Sprintf("%+v %+v", deals, logged)
			if len(kept) < 60 {
				kept = append(kept, func() bool { return fmt.Sprintf("%+v %+v", deals, logged) == told })
			}
		})
		for k, same := range kept {
			if !same() {
				t.Fatalf("row %d: answer %d has changed", seed, k)
			}
		}
	}
}

// A Step's Op is not kept: what is asked is what it was when it was asked.
func TestOpIsNotKept(t *testing.T) {
	w := met(t, usual(1))
	s := do(0, begin())
	for k := range 3 {
		s.Op = begin()
		w.yes(s)
		s.Op = write(k, 1, 5)
		w.yes(s)
		s.Op = write(5, 3, 99)
		s.Client, s.Kind = 9, 9
		w.calm()
		s = do(0, commit())
		w.yes(s)
		s.Op = abort()
		w.calm()
		w.synced()
		if list := w.h.Deals(); list[k].State != api.DealDone || !slices.Equal(list[k].Deeds, []api.Deed{wrote(k, 1, 5)}) {
			t.Errorf("%+v", list)
		}
	}
}
