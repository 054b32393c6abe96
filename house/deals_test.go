package house_test

import (
	"fmt"
	"math"
	"testing"

	"cloakroom/api"
)

func got(page, obj int, v complex128) api.Deed {
	return api.Deed{Page: page, Obj: obj, Value: v}
}

func wrote(page, obj int, v complex128) api.Deed {
	return api.Deed{Write: true, Page: page, Obj: obj, Value: v}
}

// open is a transaction that hasn't ended.
func open(client, epoch, txn, began int, deeds ...api.Deed) api.Deal {
	return api.Deal{Client: client, Epoch: epoch, Txn: txn, Began: began, Ended: -1, Deeds: deeds}
}

func ended(d api.Deal, time, state int) api.Deal {
	d.Ended, d.State = time, state
	return d
}

func (w *world) checkDeals(want ...api.Deal) {
	w.t.Helper()
	if got := w.h.Deals(); len(got) != len(want) || len(got) > 0 && fmt.Sprintf("%+v", got) != fmt.Sprintf("%+v", want) {
		w.t.Errorf("the transactions are\n%+v, not\n%+v", got, want)
	}
}

// checkLast looks at the last transaction.
func (w *world) checkLast(want api.Deal) {
	w.t.Helper()
	list := w.h.Deals()
	if len(list) == 0 || fmt.Sprintf("%+v", list[len(list)-1]) != fmt.Sprintf("%+v", want) {
		w.t.Errorf("the transactions are\n%+v, and the last one not\n%+v", list, want)
	}
}

// begins begins a transaction, and makes it the last one.
func (w *world) begins(client, epoch, txn int) api.Deal {
	w.t.Helper()
	w.yes(do(client, begin()))
	d := open(client, epoch, txn, w.h.Time())
	w.checkLast(d)
	return d
}

// P21.3: what a transaction is from its beginning to its end: each Deed is there behind the step that brought it.
func TestDeal(t *testing.T) {
	w := met(t, usual(1))
	w.checkDeals()
	d := w.begins(0, 1, 1)
	w.yes(do(0, write(1, 2, 5)))
	w.checkDeals(d)
	w.yes(deliver(up(0), 0))
	w.checkDeals(d)
	w.yes(deliver(down(0), 0))
	d.Deeds = append(d.Deeds, wrote(1, 2, 5))
	w.checkDeals(d)
	w.yes(do(0, write(1, 3, 6i)))
	d.Deeds = append(d.Deeds, wrote(1, 3, 6i))
	w.checkDeals(d)
	w.yes(do(0, read(1, 2)), do(0, read(1, 0)))
	d.Deeds = append(d.Deeds, got(1, 2, 5), got(1, 0, 0))
	w.checkDeals(d)
	w.calm()
	w.yes(do(0, read(2, 2)))
	w.checkDeals(d)
	w.yes(deliver(up(0), 0), deliver(down(0), 0))
	d.Deeds = append(d.Deeds, got(2, 2, 0))
	w.checkDeals(d)
	w.yes(do(0, commit()))
	w.calm()
	w.yes(syncs())
	w.checkDeals(d)
	w.yes(deliver(down(0), 0))
	d = ended(d, w.h.Time(), api.DealDone)
	w.checkDeals(d)
	w.calm()
	next := w.begins(0, 1, 2)
	w.yes(do(0, read(1, 2)))
	next.Deeds = append(next.Deeds, got(1, 2, 5))
	w.checkDeals(d, next)
}

// P21.3: what fails makes no transaction, and is no Deed: whatever is asked without a session, outside a transaction, while it
// waits, or of places that there aren't.
func TestNoDeals(t *testing.T) {
	w := newWorld(t, usual(1))
	w.no(do(0, begin()), do(0, read(1, 1)), do(0, write(1, 1, 1)))
	w.checkDeals()
	w.meets(0)
	w.no(do(0, read(1, 1)), do(0, write(1, 1, 1)), do(0, commit()), do(0, abort()))
	w.checkDeals()
	d := w.begins(0, 1, 1)
	w.no(do(0, begin()), do(0, read(6, 1)), do(0, write(1, 4, 1)), do(0, api.Op{Kind: 5}), do(0, api.Op{Kind: -1}))
	w.checkDeals(d)
	w.yes(do(0, write(1, 1, 5)))
	w.no(do(0, read(1, 1)), do(0, write(1, 1, 6)), do(0, write(2, 2, 7)), do(0, begin()), do(0, commit()))
	w.calm()
	d.Deeds = append(d.Deeds, wrote(1, 1, 5))
	w.checkDeals(d)
	w.yes(do(0, abort()))
	d = ended(d, w.h.Time(), api.DealFailed)
	// It has copies of all now: also what could be answered at once is none.
	w.no(do(0, read(1, 1)), do(0, write(1, 1, 5)), do(0, commit()), do(0, abort()))
	w.checkDeals(d)
}

// P21.3: a read or a write for which there is no room is no Deed, and the transaction goes on.
func TestNoDeedWithoutRoom(t *testing.T) {
	c := usual(1)
	c.Many = 1
	w := met(t, c)
	d := w.begins(0, 1, 1)
	w.does(0, read(1, 1), read(2, 2), write(3, 3, 7), read(1, 0))
	d.Deeds = []api.Deed{got(1, 1, 0), got(1, 0, 0)}
	w.checkDeals(d)
	w.checkWaits()
}

// P21.3: a frame that comes twice, or again, is no second Deed, and ends nothing twice.
func TestNoDeedTwice(t *testing.T) {
	w := met(t, usual(1))
	d := w.begins(0, 1, 1)
	for page := range 3 {
		w.yes(do(0, read(page, 1)), double(up(0), 0), deliver(up(0), 0), double(down(0), 0), hostTick())
		w.calm()
		d.Deeds = append(d.Deeds, got(page, 1, 0))
		w.checkDeals(d)
	}
	w.yes(do(0, commit()))
	w.calm()
	w.yes(syncs(), double(down(0), 0), hostTick(), deliver(down(0), 0))
	d = ended(d, w.h.Time(), api.DealDone)
	next := w.begins(0, 1, 2)
	w.calm()
	w.checkDeals(d, next)
}

// P21.3: clients that wait at one time are each answered what they asked.
func TestDealsOfSeveral(t *testing.T) {
	w := met(t, usual(clients))
	var want []api.Deal
	for _, c := range []int{2, 0, 3, 1} {
		want = append(want, w.begins(c, 1, 1))
	}
	for k, d := range want {
		w.yes(do(d.Client, write(d.Client, 1+k%3, complex(float64(k), 1))))
	}
	w.checkDeals(want...)
	for c := range clients {
		w.yes(deliver(up(c), 0))
	}
	for _, k := range []int{3, 1, 0, 2} {
		w.yes(deliver(down(want[k].Client), 0))
		want[k].Deeds = append(want[k].Deeds, wrote(want[k].Client, 1+k%3, complex(float64(k), 1)))
		w.checkDeals(want...)
	}
	w.calm()
	for _, k := range []int{2, 3} {
		w.yes(do(want[k].Client, abort()))
		want[k] = ended(want[k], w.h.Time(), api.DealFailed)
		w.checkDeals(want...)
	}
	w.yes(do(want[0].Client, read(want[0].Client, 0)))
	want[0].Deeds = append(want[0].Deeds, got(want[0].Client, 0, 0))
	w.yes(crash(want[1].Client))
	want[1] = ended(want[1], w.h.Time(), api.DealLost)
	w.checkDeals(want...)
}

// P21.3: it is Done with the step that brings the answer to its OpCommit, and not ahead of it; the values are told bit by bit.
func TestDone(t *testing.T) {
	odd := []complex128{complex(math.Inf(1), math.Copysign(0, -1)), complex(math.NaN(), 1), complex(math.MaxFloat64, -5e-324)}
	w := met(t, usual(2))
	for k, v := range odd {
		d := w.begins(0, 1, 1+k)
		w.does(0, write(1, 1, v), commit())
		w.yes(syncs(), hostTick())
		d.Deeds = []api.Deed{wrote(1, 1, v)}
		w.checkLast(d)
		w.yes(deliver(down(0), 0))
		w.checkLast(ended(d, w.h.Time(), api.DealDone))
		w.calm()
		d = w.begins(1, 1, 1+k)
		w.does(1, read(1, 1), abort())
		d.Deeds = []api.Deed{got(1, 1, v)}
		w.checkLast(ended(d, w.h.Time(), api.DealFailed))
	}
}

// P21.3: what did nothing, and what only read, is Done as well.
func TestDoneWithoutWrites(t *testing.T) {
	w := met(t, usual(1))
	d := w.begins(0, 1, 1)
	w.does(0, commit())
	w.yes(syncs(), deliver(down(0), 0))
	w.checkLast(ended(d, w.h.Time(), api.DealDone))
	w.calm()
	d = w.begins(0, 1, 2)
	w.does(0, read(3, 3), commit())
	w.yes(syncs(), deliver(down(0), 0))
	d.Deeds = []api.Deed{got(3, 3, 0)}
	w.checkLast(ended(d, w.h.Time(), api.DealDone))
}

// P21.3: Failed: it was aborted.
func TestFailedByAbort(t *testing.T) {
	w := met(t, usual(1))
	d := w.begins(0, 1, 1)
	w.does(0, write(1, 1, 5))
	w.yes(do(0, abort()))
	d.Deeds = []api.Deed{wrote(1, 1, 5)}
	w.checkDeals(ended(d, w.h.Time(), api.DealFailed))
	w.checkValue(1, 1, 0)
}

// P21.3: Failed: the log has no room for it.
func TestFailedByRoom(t *testing.T) {
	w := met(t, usual(1))
	d := w.begins(0, 1, 1)
	w.does(0, write(1, 1, 5))
	w.yes(room(0), do(0, commit()), deliver(up(0), 0))
	d.Deeds = []api.Deed{wrote(1, 1, 5)}
	w.checkDeals(d)
	w.yes(deliver(down(0), 0))
	d = ended(d, w.h.Time(), api.DealFailed)
	w.checkDeals(d)
	w.calm()
	w.synced()
	w.checkDeals(d)
	w.checkValue(1, 1, 0)
	if len(w.h.Logged()) > 0 {
		t.Errorf("it is logged: %+v", w.h.Logged())
	}
}

// P21.3: Failed: it has to give way.
func TestFailedByDeadlock(t *testing.T) {
	w := met(t, usual(2))
	a := w.begins(0, 1, 1)
	b := w.begins(1, 1, 1)
	w.does(0, read(1, 1))
	w.does(1, read(1, 1))
	w.does(0, write(1, 1, 5))
	w.checkWaits(0)
	w.yes(do(1, write(1, 1, 6)))
	// All but what is told to client 1.
	for w.h.Len(down(1)) == 0 || w.h.Len(up(0))+w.h.Len(down(0))+w.h.Len(up(1)) > 0 {
		for _, lane := range []int{up(0), down(0), up(1)} {
			w.h.Step(deliver(lane, 0))
		}
	}
	a.Deeds, b.Deeds = []api.Deed{got(1, 1, 0)}, []api.Deed{got(1, 1, 0)}
	for w.h.Waits(1) {
		w.checkDeals(a, b)
		w.yes(deliver(down(1), 0))
	}
	b = ended(b, w.h.Time(), api.DealFailed)
	w.checkDeals(a, b)
	w.calm()
	a.Deeds = append(a.Deeds, wrote(1, 1, 5))
	w.checkDeals(a, b)
}

// P21.3: Lost: the client doesn't run any more; what it began is another one's than what the next one begins.
func TestLostByCrash(t *testing.T) {
	w := met(t, usual(1))
	d := w.begins(0, 1, 1)
	w.does(0, write(1, 1, 5))
	w.yes(crash(0))
	d.Deeds = []api.Deed{wrote(1, 1, 5)}
	d = ended(d, w.h.Time(), api.DealLost)
	w.checkDeals(d)
	w.yes(start(0))
	w.meets(0)
	next := w.begins(0, 2, 1)
	w.does(0, read(1, 1))
	next.Deeds = []api.Deed{got(1, 1, 0)}
	w.checkDeals(d, next)
}

// P21.3: Lost: the client doesn't run any more while it waits, be that for an object or for a commit that was logged.
func TestLostWhileItWaits(t *testing.T) {
	w := met(t, usual(1))
	d := w.begins(0, 1, 1)
	w.yes(do(0, write(1, 1, 5)), deliver(up(0), 0), crash(0))
	d = ended(d, w.h.Time(), api.DealLost)
	w.checkDeals(d)
	w.calm()
	w.yes(start(0))
	w.meets(0)
	w.checkDeals(d)
	next := w.begins(0, 2, 1)
	w.does(0, write(1, 1, 6), commit())
	w.yes(syncs(), crash(0))
	next.Deeds = []api.Deed{wrote(1, 1, 6)}
	next = ended(next, w.h.Time(), api.DealLost)
	w.calm()
	w.checkDeals(d, next)
	w.checkValue(1, 1, 6)
}

// P21.3: Lost: the session ended, since the client was silent; it is told so when it speaks again.
func TestLostBySilence(t *testing.T) {
	for _, waits := range []bool{false, true} {
		w := met(t, usual(1))
		d := w.begins(0, 1, 1)
		w.does(0, read(1, 1))
		d.Deeds = []api.Deed{got(1, 1, 0)}
		if waits {
			w.yes(do(0, commit()), drop(up(0), 0))
		}
		for range 6 {
			w.yes(hostTick())
		}
		w.checkClient(0, true, 1, false)
		w.yes(tick(0), deliver(up(0), 0))
		w.checkDeals(d)
		for w.h.Epoch(0) == 1 {
			w.checkDeals(d)
			w.yes(deliver(down(0), 0))
		}
		d = ended(d, w.h.Time(), api.DealLost)
		w.checkDeals(d)
		w.calm()
		w.checkClient(0, true, 2, true)
		w.checkDeals(d)
		w.checkHas(0, 1, 0, 0)
	}
}

// P21.3: Lost: the server fell; the client is told so by the next one, and not ahead of that.
func TestLostByFall(t *testing.T) {
	for _, waits := range []bool{false, true} {
		w := met(t, usual(1))
		d := w.begins(0, 1, 1)
		w.does(0, write(1, 1, 5))
		d.Deeds = []api.Deed{wrote(1, 1, 5)}
		if waits {
			w.does(0, commit())
		}
		w.yes(fall(0, 0))
		w.checkDeals(d)
		if !waits {
			// What needs no server is done without one.
			w.yes(do(0, read(1, 1)))
			d.Deeds = append(d.Deeds, got(1, 1, 5))
		}
		w.yes(rise(), tick(0), deliver(up(0), 0))
		w.checkDeals(d)
		w.yes(deliver(down(0), 0))
		w.checkDeals(ended(d, w.h.Time(), api.DealLost))
		w.checkClient(0, true, 2, false)
	}
}

// P21.3: a commit of which the client wasn't told is Lost, though it is logged for good; and so is one whose Done was on its way
// when the session was lost.
func TestLostThoughLogged(t *testing.T) {
	w := met(t, usual(1))
	d := w.begins(0, 1, 1)
	w.does(0, write(1, 1, 5), commit())
	w.yes(fall(42, 0), rise(), tick(0))
	w.calm()
	list := w.h.Deals()
	d.Deeds = []api.Deed{wrote(1, 1, 5)}
	d = ended(d, list[0].Ended, api.DealLost)
	w.checkDeals(d)
	// The client ran all the time, so its Agent counts on.
	next := w.begins(0, 2, 2)
	w.does(0, write(1, 1, 6), commit())
	w.yes(syncs(), fall(0, 0), rise(), tick(0), deliver(up(0), 0), late(down(0), 0))
	w.yes(deliver(down(0), 0))
	next.Deeds = []api.Deed{wrote(1, 1, 6)}
	next = ended(next, w.h.Time(), api.DealLost)
	w.checkDeals(d, next)
	w.calm()
	w.checkDeals(d, next)
	w.checkValue(1, 1, 6)
	if len(w.h.Logged()) != 2 {
		t.Errorf("%+v is logged", w.h.Logged())
	}
}

// P21.3: a Done that comes behind a fall, ahead of what the next server says, is a Done.
func TestDoneBehindFall(t *testing.T) {
	w := met(t, usual(1))
	d := w.begins(0, 1, 1)
	w.does(0, write(1, 1, 5), commit())
	w.yes(syncs(), fall(0, 0), rise(), deliver(down(0), 0))
	d.Deeds = []api.Deed{wrote(1, 1, 5)}
	w.checkDeals(ended(d, w.h.Time(), api.DealDone))
}

// P21.3: what has ended stays as it is, whatever becomes of its client.
func TestEndedStays(t *testing.T) {
	w := met(t, usual(2))
	w.does(0, begin(), write(1, 1, 5), commit())
	w.synced()
	w.does(0, begin(), write(1, 1, 6), abort())
	before := w.h.Deals()
	w.yes(tick(0), fall(0, 0), rise())
	w.calm()
	w.yes(crash(0), start(0))
	w.meets(0)
	w.checkDeals(before...)
	if before[0].State != api.DealDone || before[1].State != api.DealFailed {
		t.Errorf("%+v", before)
	}
}
