package queue_test

import (
	"slices"
	"testing"

	"cloakroom/api"
	"cloakroom/queue"
)

const (
	clients = api.MaxClients
	pages   = api.MaxPages
	objs    = api.MaxObjs
)

func toRead(client, page, obj int) api.Want {
	return api.Want{Client: client, Page: page, Obj: obj}
}

func toWrite(client, page, obj int) api.Want {
	return api.Want{Client: client, Page: page, Obj: obj, Write: true}
}

// waiting is a new queue in which some wait.
func waiting(t *testing.T, list ...api.Want) *queue.Queue {
	t.Helper()
	q := queue.New()
	for _, w := range list {
		checkAdd(t, q, w, true)
	}
	return q
}

func checkAdd(t *testing.T, q *queue.Queue, w api.Want, want bool) {
	t.Helper()
	if got := q.Add(w); got != want {
		t.Errorf("Add %+v: %t", w, got)
	}
}

func checkRemove(t *testing.T, q *queue.Queue, client int, want bool) {
	t.Helper()
	if got := q.Remove(client); got != want {
		t.Errorf("Remove %d: %t", client, got)
	}
}

func checkAll(t *testing.T, q *queue.Queue, want ...api.Want) {
	t.Helper()
	if got := q.All(); !slices.Equal(got, want) {
		t.Errorf("there wait %+v, not %+v", got, want)
	}
}

func checkAhead(t *testing.T, q *queue.Queue, w api.Want, want ...int) {
	t.Helper()
	if got := q.Ahead(w); !slices.Equal(got, want) {
		t.Errorf("ahead of %+v are %d, not %d", w, got, want)
	}
}

func checkReserved(t *testing.T, q *queue.Queue, client, page, want int) {
	t.Helper()
	if got := q.Reserved(client, page); got != want {
		t.Errorf("reserved for others than %d on page %d: %d, not %d", client, page, got, want)
	}
}

func checkCall(t *testing.T, q *queue.Queue, holder int, w api.Want, want bool) {
	t.Helper()
	if got := q.Call(holder, w); got != want {
		t.Errorf("Call %d %+v: %t", holder, w, got)
	}
}

func checkBusy(t *testing.T, q *queue.Queue, holder int, w api.Want, want bool) {
	t.Helper()
	if got := q.Busy(holder, w); got != want {
		t.Errorf("Busy %d %+v: %t", holder, w, got)
	}
}

func checkCalled(t *testing.T, q *queue.Queue, holder int, w api.Want, there, busy bool) {
	t.Helper()
	if a, b := q.Called(holder, w); a != there || b != busy {
		t.Errorf("Called %d %+v: %t, %t, not %t, %t", holder, w, a, b, there, busy)
	}
}

func checkOut(t *testing.T, q *queue.Queue, holder, page int, want bool) {
	t.Helper()
	if got := q.Out(holder, page); got != want {
		t.Errorf("Out %d %d: %t", holder, page, got)
	}
}

// P14.1, P14.2: in a new Queue nobody waits, nobody is Ahead, nothing is Reserved, and no Call is there.
func TestNew(t *testing.T) {
	q := queue.New()
	checkAll(t, q)
	for client := range clients {
		for page := range pages {
			checkReserved(t, q, client, page, 0)
			checkOut(t, q, client, page, false)
			for obj := range objs {
				for _, w := range []api.Want{toRead(client, page, obj), toWrite(client, page, obj)} {
					checkAhead(t, q, w)
					for holder := range clients {
						checkCalled(t, q, holder, w, false, false)
					}
				}
			}
		}
	}
	if show(q) != show(&plain{}) {
		t.Error("something is told of a new one")
	}
}

// The chapter's example.
func TestExample(t *testing.T) {
	q := waiting(t, toWrite(0, 2, 1), toRead(1, 2, 1))
	checkAhead(t, q, toRead(1, 2, 1), 0)
	checkAhead(t, q, toWrite(0, 2, 1))
}

// P14.1: every Want that can be is added, as it is.
func TestAdd(t *testing.T) {
	for client := range clients {
		for page := range pages {
			for obj := range objs {
				for _, w := range []api.Want{toRead(client, page, obj), toWrite(client, page, obj)} {
					checkAll(t, waiting(t, w), w)
				}
			}
		}
	}
}

// P14.1: a client that waits already is refused, for the same and for another object, to read and to write, wherever it
// stands; what it waits for, and its place, stay.
func TestAddOfOneThatWaits(t *testing.T) {
	list := []api.Want{toRead(3, 0, 1), toWrite(0, 0, 1), toRead(2, 5, 3), toWrite(1, 4, 0)}
	q := waiting(t, list...)
	before := show(q)
	for _, w := range list {
		for page := range pages {
			for obj := range objs {
				checkAdd(t, q, toRead(w.Client, page, obj), false)
				checkAdd(t, q, toWrite(w.Client, page, obj), false)
				if show(q) != before {
					t.Fatalf("a refused Add of %d has changed something", w.Client)
				}
			}
		}
	}
	checkAll(t, q, list...)
}

// P14.1: one that waits is refused also where others don't wait yet.
func TestAddOfOneThatWaitsAlone(t *testing.T) {
	for client := range clients {
		q := waiting(t, toWrite(client, 1, 1))
		checkAdd(t, q, toWrite(client, 1, 1), false)
		checkAdd(t, q, toRead(client, 1, 1), false)
		checkAdd(t, q, toWrite(client, 1, 2), false)
		checkAll(t, q, toWrite(client, 1, 1))
		checkAdd(t, q, toWrite((client+1)%clients, 1, 1), true)
		checkAll(t, q, toWrite(client, 1, 1), toWrite((client+1)%clients, 1, 1))
	}
}

// P14.1: all that wait are told in the order of Add, not in that of their numbers, pages or objects.
func TestAllInTheOrderOfAdd(t *testing.T) {
	rows(nil, func(row []int) {
		var list []api.Want
		for k, client := range row {
			list = append(list, api.Want{Client: client, Page: (7 * client) % pages, Obj: 3 - k, Write: k%2 == 1})
		}
		checkAll(t, waiting(t, list...), list...)
	})
}

// P14.1: the first, one in the middle and the last are taken out; the others keep their order.
func TestRemove(t *testing.T) {
	list := []api.Want{toRead(2, 0, 0), toWrite(0, 1, 1), toRead(3, 2, 2), toWrite(1, 3, 3)}
	for k, w := range list {
		q := waiting(t, list...)
		checkRemove(t, q, w.Client, true)
		left := slices.Delete(slices.Clone(list), k, k+1)
		checkAll(t, q, left...)
		checkRemove(t, q, w.Client, false)
		checkAll(t, q, left...)
		for _, other := range left {
			checkRemove(t, q, other.Client, true)
		}
		checkAll(t, q)
	}
	for client := range clients {
		q := queue.New()
		checkRemove(t, q, client, false)
		checkAdd(t, q, toRead((client+1)%clients, 0, 0), true)
		checkRemove(t, q, client, false)
		checkAll(t, q, toRead((client+1)%clients, 0, 0))
	}
}

// P14.1: who is removed and added again stands behind the others, and waits for what it asked for then.
func TestAddBehindRemove(t *testing.T) {
	list := []api.Want{toWrite(1, 2, 2), toRead(3, 2, 2), toWrite(0, 2, 2), toRead(2, 2, 2)}
	for k, w := range list {
		q := waiting(t, list...)
		checkRemove(t, q, w.Client, true)
		checkAdd(t, q, toWrite(w.Client, 4, 1), true)
		now := append(slices.Delete(slices.Clone(list), k, k+1), toWrite(w.Client, 4, 1))
		checkAll(t, q, now...)
		checkAdd(t, q, w, false)
		checkAll(t, q, now...)
	}
	q := waiting(t, list...)
	checkRemove(t, q, 3, true)
	checkRemove(t, q, 1, true)
	checkAdd(t, q, toRead(1, 2, 2), true)
	checkAdd(t, q, toWrite(3, 2, 2), true)
	checkAll(t, q, toWrite(0, 2, 2), toRead(2, 2, 2), toRead(1, 2, 2), toWrite(3, 2, 2))
	checkAhead(t, q, toRead(1, 2, 2), 0)
	checkAhead(t, q, toWrite(3, 2, 2), 0, 2, 1)
}

// P14.1: what waits doesn't touch the Calls, and Remove leaves those of the client.
func TestRemoveLeavesCalls(t *testing.T) {
	q := waiting(t, toWrite(2, 1, 1), toRead(0, 1, 1))
	checkCall(t, q, 2, toRead(0, 1, 1), true)
	checkCall(t, q, 1, toWrite(2, 1, 1), true)
	checkBusy(t, q, 1, toWrite(2, 1, 1), true)
	checkRemove(t, q, 2, true)
	checkCalled(t, q, 2, toRead(0, 1, 1), true, false)
	checkCalled(t, q, 1, toWrite(2, 1, 1), true, true)
}

// P14.1: of a client that waits only those that stand ahead of it are told, in their order; of one that doesn't, all.
func TestAhead(t *testing.T) {
	q := waiting(t, toWrite(3, 0, 0), toWrite(1, 0, 0), toWrite(2, 0, 0))
	checkAhead(t, q, toWrite(3, 0, 0))
	checkAhead(t, q, toWrite(1, 0, 0), 3)
	checkAhead(t, q, toWrite(2, 0, 0), 3, 1)
	checkAhead(t, q, toWrite(0, 0, 0), 3, 1, 2)
	checkAhead(t, q, toRead(0, 0, 0), 3, 1, 2)
	checkAdd(t, q, toRead(0, 0, 0), true)
	checkAhead(t, q, toRead(0, 0, 0), 3, 1, 2)
	checkRemove(t, q, 1, true)
	checkAhead(t, q, toWrite(2, 0, 0), 3)
	checkAhead(t, q, toWrite(1, 0, 0), 3, 2, 0)
}

// P14.1: readers aren't in each other's way; a writer is in that of all, and all are in its way.
func TestAheadOfReadersAndWriters(t *testing.T) {
	q := waiting(t, toRead(2, 4, 1), toRead(0, 4, 1))
	checkAhead(t, q, toRead(0, 4, 1))
	checkAhead(t, q, toRead(1, 4, 1))
	checkAhead(t, q, toWrite(1, 4, 1), 2, 0)
	checkAdd(t, q, toWrite(1, 4, 1), true)
	checkAhead(t, q, toWrite(1, 4, 1), 2, 0)
	checkAdd(t, q, toRead(3, 4, 1), true)
	checkAhead(t, q, toRead(3, 4, 1), 1)
	checkAhead(t, q, toRead(2, 4, 1))
	checkAhead(t, q, toRead(0, 4, 1))
}

// P14.1: nobody is in the way at another object, nor at the same one of another page.
func TestAheadOfOtherObjects(t *testing.T) {
	q := waiting(t, toWrite(0, 2, 1), toWrite(1, 2, 3), toWrite(2, 3, 1))
	for page := range pages {
		for obj := range objs {
			var want []int
			switch (api.Want{Page: page, Obj: obj}) {
			case toRead(0, 2, 1):
				want = []int{0}
			case toRead(0, 2, 3):
				want = []int{1}
			case toRead(0, 3, 1):
				want = []int{2}
			}
			checkAhead(t, q, toRead(3, page, obj), want...)
			checkAhead(t, q, toWrite(3, page, obj), want...)
		}
	}
}

// P14.1: w's own object and Write count, not those that its Client waits for; and its Client is never in its own way.
func TestAheadAsksOfW(t *testing.T) {
	q := waiting(t, toWrite(0, 1, 1), toRead(1, 1, 2), toRead(2, 5, 0), toWrite(3, 1, 2))
	checkAhead(t, q, toRead(2, 5, 0))
	checkAhead(t, q, toRead(2, 1, 1), 0)
	checkAhead(t, q, toRead(2, 1, 2))
	checkAhead(t, q, toWrite(2, 1, 2), 1)
	checkAhead(t, q, toWrite(3, 1, 2), 1)
	checkAhead(t, q, toRead(3, 1, 2))
	checkAhead(t, q, toWrite(3, 5, 0), 2)
	checkAhead(t, q, toWrite(0, 1, 2))
	for client := range clients {
		own := waiting(t, toWrite(client, 3, 3))
		checkAhead(t, own, toWrite(client, 3, 3))
		checkAhead(t, own, toRead(client, 3, 3))
	}
}

// P14.1: Reserved with no writers, one and several, on one object and on several, the client's own and readers left out.
func TestReserved(t *testing.T) {
	q := queue.New()
	masks := func(want ...int) {
		t.Helper()
		for client, mask := range want {
			checkReserved(t, q, client, 3, mask)
			for _, page := range []int{0, 1, 2, 4, 5} {
				checkReserved(t, q, client, page, 0)
			}
		}
	}
	masks(0, 0, 0, 0)
	checkAdd(t, q, toRead(1, 3, 0), true)
	masks(0, 0, 0, 0)
	checkAdd(t, q, toWrite(2, 3, 3), true)
	masks(8, 8, 0, 8)
	checkAdd(t, q, toWrite(0, 3, 1), true)
	masks(8, 10, 2, 10)
	checkAdd(t, q, toWrite(3, 3, 3), true)
	masks(8, 10, 10, 10)
	checkRemove(t, q, 2, true)
	masks(8, 10, 10, 2)
	checkRemove(t, q, 1, true)
	checkAdd(t, q, toWrite(1, 3, 0), true)
	masks(9, 10, 11, 3)
	q.Gone(3)
	masks(1, 2, 3, 3)
}

// P14.1: each object of each page has its own bit, and each client but the one that waits is told of it.
func TestReservedOfEach(t *testing.T) {
	for client := range clients {
		for page := range pages {
			for obj := range objs {
				q := waiting(t, toWrite(client, page, obj))
				for other := range clients {
					for at := range pages {
						want := 0
						if other != client && at == page {
							want = 1 << obj
						}
						checkReserved(t, q, other, at, want)
					}
				}
			}
		}
	}
}

// P14.1: Calls reserve nothing, nor do they make anybody wait.
func TestCallsWaitForNothing(t *testing.T) {
	q := queue.New()
	checkCall(t, q, 0, toWrite(1, 3, 2), true)
	checkAll(t, q)
	for client := range clients {
		checkReserved(t, q, client, 3, 0)
		checkAhead(t, q, toWrite(client, 3, 2))
	}
	checkRemove(t, q, 0, false)
	checkRemove(t, q, 1, false)
}
