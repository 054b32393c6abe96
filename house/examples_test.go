package house_test

import (
	"testing"

	"cloakroom/api"
)

// The chapter's example: all delivered, one client reads, writes and commits, Sync, delivered: one Deal that is Done.
func TestChapterExample(t *testing.T) {
	w := met(t, usual(1))
	w.does(0, begin(), read(2, 0), write(2, 0, 4), commit())
	w.synced()
	list := w.h.Deals()
	if len(list) != 1 || list[0].State != api.DealDone || len(list[0].Deeds) != 2 {
		t.Errorf("%+v", list)
	}
}

// Example 1: a client writes an object, commits, and the log is synced: it is told Done; another client reads the value.
func TestExample1(t *testing.T) {
	w := met(t, usual(2))
	w.does(0, begin(), write(2, 1, 5), commit())
	w.synced()
	w.does(1, begin(), read(2, 1))
	list := w.h.Deals()
	if list[0].State != api.DealDone || len(list[1].Deeds) != 1 || list[1].Deeds[0] != got(2, 1, 5) {
		t.Errorf("%+v", list)
	}
}

// Example 2: two clients read one object: both have copies; the one that wants to write it waits till the other one's
// transaction is over.
func TestExample2(t *testing.T) {
	w := met(t, usual(2))
	w.does(0, begin(), read(2, 1))
	w.does(1, begin(), read(2, 1))
	w.checkHas(0, 2, all, 0)
	w.checkHas(1, 2, all, 0)
	w.does(0, write(2, 1, 5))
	w.checkWaits(0)
	for range 3 {
		w.yes(hostTick(), tick(0), tick(1))
		w.calm()
	}
	w.checkWaits(0)
	w.does(1, abort())
	w.checkWaits()
	w.checkHas(0, 2, all, 2)
	w.checkHas(1, 2, all-2, 0)
}

// Example 3: both want to write it: the one with the greater number has to give way, whichever asks first.
func TestExample3(t *testing.T) {
	for first := range 2 {
		w := met(t, usual(2))
		w.does(0, begin(), read(2, 1))
		w.does(1, begin(), read(2, 1))
		w.does(first, write(2, 1, 5))
		w.checkWaits(first)
		w.does(1-first, write(2, 1, 6))
		w.checkWaits()
		list := w.h.Deals()
		if list[0].State != api.DealOpen || len(list[0].Deeds) != 2 || list[1].State != api.DealFailed || len(list[1].Deeds) != 1 {
			t.Errorf("%+v", list)
		}
		w.does(0, commit())
		w.synced()
		w.checkValue(2, 1, complex(float64(5+first), 0))
	}
}

// Example 4: a client alone at a page writes one object: it owns all four; when another one reads the page, it gives up all that
// it hasn't written.
func TestExample4(t *testing.T) {
	w := met(t, usual(2))
	w.does(0, begin(), write(2, 1, 5))
	w.checkHas(0, 2, all, all)
	w.does(1, begin(), read(2, 0))
	w.checkHas(0, 2, all, 2)
	w.checkHas(1, 2, all-2, 0)
}

// Example 5: a client keeps its copies: its next transaction reads them without a message.
func TestExample5(t *testing.T) {
	w := met(t, usual(1))
	w.does(0, begin(), write(2, 1, 5), commit())
	w.synced()
	w.yes(do(0, begin()), do(0, read(2, 1)), do(0, read(2, 3)), do(0, write(2, 0, 6)))
	w.checkLens(nil)
	w.checkWaits()
	if list := w.h.Deals(); len(list[1].Deeds) != 3 || list[1].Deeds[0] != got(2, 1, 5) {
		t.Errorf("%+v", list)
	}
}

// Example 6: the server falls ahead of a sync: the commit is gone, the client is told that its session is lost. Example 7: it
// falls behind it: the commit is there.
func TestExamples6And7(t *testing.T) {
	for _, synced := range []bool{false, true} {
		w := met(t, usual(1))
		w.does(0, begin(), write(2, 1, 5), commit())
		if synced {
			w.synced()
		}
		w.yes(fall(0, 0), rise())
		w.meets(0)
		state, v, many := api.DealLost, complex128(0), 0
		if synced {
			state, v, many = api.DealDone, 5, 1
		}
		w.checkClient(0, true, 2, true)
		w.checkValue(2, 1, v)
		if list := w.h.Deals(); list[0].State != state || len(w.h.Logged()) != many {
			t.Errorf("%+v, and logged is %+v", list, w.h.Logged())
		}
	}
}

// Example 8: a client falls with objects that it owns: behind its new session's beginning, or some silent ticks, others get them.
func TestExample8(t *testing.T) {
	for _, back := range []bool{true, false} {
		w := met(t, usual(2))
		w.does(0, begin(), write(2, 1, 5))
		w.yes(crash(0))
		w.does(1, begin(), read(2, 1))
		w.checkWaits(1)
		if back {
			w.yes(start(0))
			w.meets(0)
		} else {
			for range 6 {
				w.checkWaits(1)
				w.yes(tick(1), hostTick())
				w.calm()
			}
		}
		w.checkWaits()
		w.checkHas(1, 2, all, 0)
	}
}

// Example 9: a packet of an old session comes late: it is answered with Boot 0, and changes nothing.
func TestExample9(t *testing.T) {
	w := met(t, usual(2))
	w.does(1, begin())
	w.yes(do(1, write(2, 1, 5)), crash(1), start(1), tick(1), late(up(1), 0))
	w.yes(deliver(up(1), 0), deliver(down(1), 0))
	w.checkClient(1, true, 2, true)
	w.does(0, begin(), write(2, 1, 7))
	w.checkLens(nil)
	w.meets(1)
	w.checkHas(0, 2, all, all)
	w.checkClient(1, true, 2, true)
	w.checkHas(1, 2, 0, 0)
}

// Example 9, with the old packet answered while the new session is there.
func TestExample9Answer(t *testing.T) {
	w := met(t, usual(1))
	w.yes(tick(0), crash(0), start(0), tick(0), late(up(0), 0), deliver(up(0), 0), deliver(down(0), 0))
	w.checkLens(map[int]int{up(0): 1})
	before := show(w.h)
	w.yes(deliver(up(0), 0))
	w.checkLens(map[int]int{down(0): 1})
	w.yes(deliver(down(0), 0))
	before.many[up(0)] = 0
	if now := show(w.h); now != before {
		t.Errorf("behind an old packet there is\n%+v, not\n%+v", now, before)
	}
}

// Example 10: the log is full: the commit fails with ErrFull, and the transaction with it.
func TestExample10(t *testing.T) {
	w := met(t, usual(1))
	w.does(0, begin(), write(2, 1, 5))
	w.yes(room(0))
	w.does(0, commit())
	w.checkWaits()
	if list := w.h.Deals(); list[0].State != api.DealFailed || len(w.h.Logged()) > 0 {
		t.Errorf("%+v, and logged is %+v", list, w.h.Logged())
	}
	w.checkValue(2, 1, 0)
	w.yes(room(3000))
	w.does(0, begin(), read(2, 1), write(2, 1, 6), commit())
	w.synced()
	w.checkValue(2, 1, 6)
}
