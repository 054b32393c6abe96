package queue_test

import (
	"testing"

	"cloakroom/api"
	"cloakroom/queue"
)

// P14.2: there is one Call of a holder for an object to read, and one to write; whose Want it was doesn't matter.
func TestCallTwice(t *testing.T) {
	q := queue.New()
	checkCall(t, q, 1, toWrite(0, 4, 1), true)
	for client := range clients {
		checkCall(t, q, 1, toWrite(client, 4, 1), false)
		checkCalled(t, q, 1, toWrite(client, 4, 1), true, false)
		checkCalled(t, q, 1, toRead(client, 4, 1), false, false)
	}
	checkCall(t, q, 1, toRead(3, 4, 1), true)
	for client := range clients {
		checkCall(t, q, 1, toRead(client, 4, 1), false)
		checkCalled(t, q, 1, toRead(client, 4, 1), true, false)
	}
	checkCall(t, q, 2, toWrite(0, 4, 1), true)
	checkCall(t, q, 1, toWrite(0, 4, 2), true)
	checkCall(t, q, 1, toWrite(0, 3, 1), true)
	checkCall(t, q, 0, toWrite(0, 4, 1), true)
}

// P14.2: a Call that is BUSY isn't made anew, and isn't OUT again.
func TestCallOfOneThatIsBusy(t *testing.T) {
	q := queue.New()
	checkCall(t, q, 3, toRead(0, 0, 0), true)
	checkBusy(t, q, 3, toRead(0, 0, 0), true)
	before := show(q)
	for client := range clients {
		checkCall(t, q, 3, toRead(client, 0, 0), false)
	}
	if show(q) != before {
		t.Error("a refused Call has changed something")
	}
	checkCalled(t, q, 3, toRead(1, 0, 0), true, true)
	checkOut(t, q, 3, 0, false)
}

// P14.2: each Call that can be is one of its own.
func TestEachCall(t *testing.T) {
	for holder := range clients {
		for page := range pages {
			for obj := range objs {
				for _, write := range []bool{false, true} {
					w := api.Want{Client: (holder + 1) % clients, Page: page, Obj: obj, Write: write}
					q, p := queue.New(), &plain{}
					checkCall(t, q, holder, w, true)
					p.Call(holder, w)
					if show(q) != show(p) {
						t.Errorf("behind Call %d %+v: %+v", holder, w, show(q))
					}
					checkBusy(t, q, holder, w, true)
					p.Busy(holder, w)
					if show(q) != show(p) {
						t.Errorf("behind Busy %d %+v: %+v", holder, w, show(q))
					}
				}
			}
		}
	}
}

// P14.2: Busy of a Call that is OUT, of one that is BUSY, and of those that aren't there.
func TestBusy(t *testing.T) {
	q := queue.New()
	checkBusy(t, q, 2, toWrite(0, 1, 1), false)
	checkCalled(t, q, 2, toWrite(0, 1, 1), false, false)
	checkCall(t, q, 2, toWrite(0, 1, 1), true)
	for _, w := range []api.Want{toRead(0, 1, 1), toWrite(0, 1, 2), toWrite(0, 2, 1)} {
		checkBusy(t, q, 2, w, false)
		checkCalled(t, q, 2, w, false, false)
	}
	checkBusy(t, q, 3, toWrite(0, 1, 1), false)
	checkCalled(t, q, 2, toWrite(0, 1, 1), true, false)
	for range 2 {
		checkBusy(t, q, 2, toWrite(3, 1, 1), true)
		checkCalled(t, q, 2, toWrite(0, 1, 1), true, true)
	}
	checkCall(t, q, 2, toRead(0, 1, 1), true)
	checkCalled(t, q, 2, toRead(0, 1, 1), true, false)
}

// P14.2: Called where there is no Call, where it is OUT, where it is BUSY, and behind its Answer.
func TestCalled(t *testing.T) {
	q := queue.New()
	w := toRead(1, 5, 3)
	checkCalled(t, q, 0, w, false, false)
	checkCall(t, q, 0, w, true)
	checkCalled(t, q, 0, w, true, false)
	checkBusy(t, q, 0, w, true)
	checkCalled(t, q, 0, w, true, true)
	q.Answer(0, 5, 3, false)
	checkCalled(t, q, 0, w, false, false)
	checkCall(t, q, 0, w, true)
	checkCalled(t, q, 0, w, true, false)
}

// P14.2: Out with no Call, one that is OUT, both at once, and those that are BUSY, on that page and of that holder alone.
func TestOut(t *testing.T) {
	q := queue.New()
	only := func(want bool) {
		t.Helper()
		for holder := range clients {
			for page := range pages {
				checkOut(t, q, holder, page, want && holder == 1 && page == 4)
			}
		}
	}
	only(false)
	checkCall(t, q, 1, toWrite(0, 4, 1), true)
	only(true)
	checkBusy(t, q, 1, toWrite(0, 4, 1), true)
	only(false)
	checkCall(t, q, 1, toRead(0, 4, 1), true)
	only(true)
	checkBusy(t, q, 1, toRead(0, 4, 1), true)
	only(false)
	checkCall(t, q, 1, toRead(0, 4, 3), true)
	only(true)
	q.Answer(1, 4, 1, true)
	q.Answer(1, 4, 1, false)
	only(true)
	q.Answer(1, 4, 3, false)
	only(false)
}

// P14.2: one that is OUT is found among any that are BUSY, whichever order a map has.
func TestOutAmongBusy(t *testing.T) {
	for range 20 {
		for page := range pages {
			q := queue.New()
			for obj := range objs {
				for _, w := range []api.Want{toRead(0, page, obj), toWrite(0, page, obj)} {
					checkCall(t, q, 2, w, true)
					checkOut(t, q, 2, page, true)
					checkBusy(t, q, 2, w, true)
					checkOut(t, q, 2, page, false)
				}
			}
			checkCall(t, q, 3, toRead(0, page, 0), true)
			checkCall(t, q, 2, toRead(0, (page+1)%pages, 0), true)
			checkOut(t, q, 2, page, false)
			checkOut(t, q, 2, (page+1)%pages, true)
			checkOut(t, q, 3, page, true)
		}
	}
}

// P14.2: what is waited for makes no Call.
func TestWantsCallNobody(t *testing.T) {
	q := waiting(t, toWrite(0, 1, 1), toRead(1, 1, 1), toWrite(2, 1, 1))
	for holder := range clients {
		checkOut(t, q, holder, 1, false)
		checkCalled(t, q, holder, toWrite(0, 1, 1), false, false)
		checkCalled(t, q, holder, toRead(1, 1, 1), false, false)
		checkBusy(t, q, holder, toWrite(2, 1, 1), false)
	}
}

// P14.2: Answer of a Call that is OUT, and of one that is BUSY, takes out that one alone.
func TestAnswer(t *testing.T) {
	for _, busy := range []bool{false, true} {
		q, p := queue.New(), &plain{}
		checkAdd(t, q, toWrite(1, 2, 2), true)
		p.Add(toWrite(1, 2, 2))
		others := []api.Want{toRead(0, 2, 2), toWrite(0, 2, 1), toWrite(0, 3, 2), toWrite(0, 2, 2)}
		for _, x := range []changed{q, p} {
			for k, w := range others {
				x.Call(1, w)
				x.Call(3, w)
				if busy == (k%2 == 1) {
					x.Busy(1, w)
				}
			}
			x.Answer(1, 2, 2, true)
		}
		checkCalled(t, q, 1, toWrite(0, 2, 2), false, false)
		checkCalled(t, q, 3, toWrite(0, 2, 2), true, false)
		checkCalled(t, q, 1, toRead(0, 2, 2), true, !busy)
		checkAll(t, q, toWrite(1, 2, 2))
		if show(q) != show(p) {
			t.Errorf("%+v, not %+v", show(q), show(p))
		}
		checkCall(t, q, 1, toWrite(0, 2, 2), true)
		checkCalled(t, q, 1, toWrite(0, 2, 2), true, false)
	}
}

// P14.2: Answer of what isn't there, and of the other Write, changes nothing.
func TestAnswerOfNothing(t *testing.T) {
	q := waiting(t, toWrite(2, 5, 0), toRead(0, 5, 0))
	checkCall(t, q, 0, toWrite(2, 5, 0), true)
	checkCall(t, q, 1, toRead(2, 5, 1), true)
	checkBusy(t, q, 1, toRead(2, 5, 1), true)
	before := show(q)
	for holder := range clients {
		for page := range pages {
			for obj := range objs {
				for _, write := range []bool{false, true} {
					if there, _ := q.Called(holder, api.Want{Page: page, Obj: obj, Write: write}); !there {
						q.Answer(holder, page, obj, write)
					}
				}
			}
		}
	}
	q.Answer(0, 5, 0, false)
	q.Answer(1, 5, 1, true)
	if show(q) != before {
		t.Errorf("%+v, not %+v", show(q), before)
	}
}

// P14.2: who is gone waits no more, and all its Calls as a holder are out; what others wait for, and their Calls, also
// those that are for it, stay.
func TestGone(t *testing.T) {
	for client := range clients {
		q := waiting(t, toWrite(3, 1, 0), toRead(1, 1, 0), toWrite(0, 2, 2), toRead(2, 2, 2))
		p := &plain{}
		for _, w := range q.All() {
			p.Add(w)
		}
		for _, x := range []changed{q, p} {
			for place := range pages * objs {
				w := api.Want{Client: client, Page: place % pages, Obj: place / pages, Write: place%5 < 2}
				for holder := range clients {
					x.Call(holder, w)
					if (w.Obj+holder)%3 == 0 {
						x.Busy(holder, w)
					}
				}
			}
			x.Gone(client)
		}
		if show(q) != show(p) {
			t.Errorf("behind %d: %+v, not %+v", client, show(q), show(p))
		}
		checkRemove(t, q, client, false)
		for page := range pages {
			checkOut(t, q, client, page, false)
			checkOut(t, q, (client+1)%clients, page, true)
			for obj := range objs {
				checkCalled(t, q, client, toRead(0, page, obj), false, false)
				checkCalled(t, q, client, toWrite(0, page, obj), false, false)
			}
		}
		q.Gone(client)
		if show(q) != show(p) {
			t.Errorf("twice behind %d: %+v, not %+v", client, show(q), show(p))
		}
		checkAdd(t, q, toRead(client, 0, 0), true)
		checkCall(t, q, client, toRead(0, 0, 0), true)
	}
}

// P14.2: of one that only waits, of one that is only a holder, and of one that is neither.
func TestGoneOfEither(t *testing.T) {
	q := waiting(t, toRead(0, 1, 1), toWrite(1, 1, 1), toRead(2, 1, 1))
	checkCall(t, q, 3, toWrite(1, 1, 1), true)
	checkCall(t, q, 2, toWrite(1, 1, 1), true)
	checkBusy(t, q, 2, toWrite(1, 1, 1), true)
	q.Gone(1)
	checkAll(t, q, toRead(0, 1, 1), toRead(2, 1, 1))
	checkCalled(t, q, 3, toWrite(1, 1, 1), true, false)
	checkCalled(t, q, 2, toWrite(1, 1, 1), true, true)
	q.Gone(3)
	checkAll(t, q, toRead(0, 1, 1), toRead(2, 1, 1))
	checkCalled(t, q, 3, toWrite(1, 1, 1), false, false)
	checkCalled(t, q, 2, toWrite(1, 1, 1), true, true)
	before := show(q)
	q.Gone(1)
	q.Gone(3)
	if show(q) != before {
		t.Error("Gone of one that is neither has changed something")
	}
}
