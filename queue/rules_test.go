package queue_test

import (
	"fmt"
	"math"
	"slices"
	"testing"

	"cloakroom/api"
	"cloakroom/queue"
)

// wrong are numbers that are no client, page or object, where least is the first one above the greatest: those about the
// edges of 64 bits, and such as have the lowest bits of those that can be.
func wrong(least int) []int {
	return []int{math.MinInt, math.MinInt + 1, math.MinInt + 3, math.MinInt32, -1<<32 + 1, -256, -4, -3, -2, -1, least, least + 1, 2*least + 1, 63, 64, 65,
		255, 256, 257, 1 << 31, 1 << 32, 1<<32 + 1, 1<<32 + 3, 1<<62 + 1, math.MaxInt - 1, math.MaxInt}
}

// wrongWants are Wants of which the client, the page or the object can't be, or several of these.
func wrongWants() (byClient, byObject []api.Want) {
	for _, write := range []bool{false, true} {
		for _, client := range wrong(clients) {
			byClient = append(byClient, api.Want{Client: client, Page: 2, Obj: 1, Write: write}, api.Want{Client: client, Page: 5, Obj: 3, Write: write})
		}
		for client := range clients {
			for _, page := range wrong(pages) {
				byObject = append(byObject, api.Want{Client: client, Page: page, Obj: 1, Write: write})
			}
			for _, obj := range wrong(objs) {
				byObject = append(byObject, api.Want{Client: client, Page: 2, Obj: obj, Write: write})
			}
		}
		for _, n := range wrong(pages) {
			byObject = append(byObject, api.Want{Client: n, Page: n, Obj: n, Write: write}, api.Want{Client: 1, Page: n, Obj: n, Write: write})
		}
	}
	return byClient, byObject
}

// filled is a queue in which three wait, with Calls that are OUT and such as are BUSY of each holder.
func filled(t *testing.T) *queue.Queue {
	t.Helper()
	q := waiting(t, toWrite(2, 2, 1), toRead(0, 2, 1), toWrite(3, 5, 3))
	for holder := range clients {
		checkCall(t, q, holder, toWrite(2, 2, 1), true)
		checkCall(t, q, holder, toRead(0, 5, holder), true)
		checkBusy(t, q, holder, toRead(0, 5, holder), true)
		checkCall(t, q, holder, toWrite(0, 0, 0), true)
		checkCall(t, q, holder, toRead(0, 0, 0), true)
	}
	return q
}

// both are an empty queue and one with much in it.
func both(t *testing.T) []*queue.Queue {
	t.Helper()
	return []*queue.Queue{queue.New(), filled(t)}
}

// checkRefused makes one call with something that can't be, which says whether it answered false, 0 or none.
func checkRefused(t *testing.T, q *queue.Queue, what string, call func() bool) {
	t.Helper()
	before := show(q)
	if !call() {
		t.Errorf("%s: not false, 0 or none", what)
	}
	if show(q) != before {
		t.Errorf("%s has changed something", what)
	}
}

// P14.1: a Want whose Client, Page or Obj can't be isn't added.
func TestAddOfNoWant(t *testing.T) {
	byClient, byObject := wrongWants()
	for _, q := range both(t) {
		for _, w := range append(byClient, byObject...) {
			checkRefused(t, q, fmt.Sprintf("Add %+v", w), func() bool { return !q.Add(w) })
		}
	}
}

// P14.1, P14.2: the greatest and the least that can be are no wrong ones.
func TestEdgesThatCanBe(t *testing.T) {
	for _, client := range []int{0, clients - 1} {
		for _, page := range []int{0, pages - 1} {
			for _, obj := range []int{0, objs - 1} {
				q := waiting(t, toWrite(client, page, obj))
				checkAhead(t, q, toRead(1, page, obj), client)
				checkReserved(t, q, 1, page, 1<<obj)
				checkCall(t, q, client, toWrite(1, page, obj), true)
				checkOut(t, q, client, page, true)
				checkBusy(t, q, client, toWrite(1, page, obj), true)
				q.Answer(client, page, obj, true)
				checkCalled(t, q, client, toWrite(1, page, obj), false, false)
				checkRemove(t, q, client, true)
			}
		}
	}
}

// P14.1, P14.2: no client is removed, is gone, or is a holder by a number that is none.
func TestNoSuchClient(t *testing.T) {
	for _, q := range both(t) {
		for _, client := range wrong(clients) {
			at := fmt.Sprintf("at %d ", client)
			checkRefused(t, q, at+"Remove", func() bool { return !q.Remove(client) })
			checkRefused(t, q, at+"Gone", func() bool { q.Gone(client); return true })
			for page := range pages {
				checkRefused(t, q, at+"Out", func() bool { return !q.Out(client, page) })
			}
			for _, w := range []api.Want{toWrite(2, 2, 1), toRead(0, 5, 0), toWrite(0, 0, 0), toRead(3, 0, 0), toWrite(1, 4, 2)} {
				checkRefused(t, q, at+"Call", func() bool { return !q.Call(client, w) })
				checkRefused(t, q, at+"Busy", func() bool { return !q.Busy(client, w) })
				checkRefused(t, q, at+"Called", func() bool { there, busy := q.Called(client, w); return !there && !busy })
				checkRefused(t, q, at+"Answer", func() bool { q.Answer(client, w.Page, w.Obj, w.Write); return true })
			}
		}
	}
}

// P14.1, P14.2: at a page or an object that can't be nobody is Ahead or called, and nothing is Reserved.
func TestNoSuchObject(t *testing.T) {
	_, byObject := wrongWants()
	for _, q := range both(t) {
		for _, w := range byObject {
			at := fmt.Sprintf("at %+v ", w)
			checkRefused(t, q, at+"Ahead", func() bool { return len(q.Ahead(w)) == 0 })
			for holder := range clients {
				checkRefused(t, q, at+"Call", func() bool { return !q.Call(holder, w) })
				checkRefused(t, q, at+"Busy", func() bool { return !q.Busy(holder, w) })
				checkRefused(t, q, at+"Called", func() bool { there, busy := q.Called(holder, w); return !there && !busy })
				checkRefused(t, q, at+"Answer", func() bool { q.Answer(holder, w.Page, w.Obj, w.Write); return true })
			}
		}
		for _, page := range wrong(pages) {
			for client := range clients {
				at := fmt.Sprintf("at %d, page %d ", client, page)
				checkRefused(t, q, at+"Reserved", func() bool { return q.Reserved(client, page) == 0 })
				checkRefused(t, q, at+"Out", func() bool { return !q.Out(client, page) })
			}
			for _, client := range wrong(clients) {
				at := fmt.Sprintf("at %d, page %d ", client, page)
				checkRefused(t, q, at+"Reserved", func() bool { return q.Reserved(client, page) == 0 })
				checkRefused(t, q, at+"Out", func() bool { return !q.Out(client, page) })
			}
		}
	}
}

// P14.1: a number that is no client doesn't wait, so all that are in the way are Ahead, and all that write are others.
func TestStrangersAreOthers(t *testing.T) {
	q := waiting(t, toRead(1, 2, 1), toWrite(3, 2, 1), toWrite(0, 2, 0), toRead(2, 2, 1))
	before := show(q)
	for _, client := range wrong(clients) {
		checkAhead(t, q, toWrite(client, 2, 1), 1, 3, 2)
		checkAhead(t, q, toRead(client, 2, 1), 3)
		checkAhead(t, q, toRead(client, 2, 2))
		checkReserved(t, q, client, 2, 3)
		checkReserved(t, q, client, 3, 0)
	}
	if show(q) != before {
		t.Error("asking has changed something")
	}
}

// P14.2: w's Client doesn't matter to a Call, also where it is no client.
func TestCallsForStrangers(t *testing.T) {
	byClient, _ := wrongWants()
	for _, w := range byClient {
		q := queue.New()
		known := w
		known.Client = 1
		checkCall(t, q, 0, w, true)
		checkCall(t, q, 0, known, false)
		checkCalled(t, q, 0, known, true, false)
		checkBusy(t, q, 0, w, true)
		checkCalled(t, q, 0, known, true, true)
		checkCalled(t, q, 0, w, true, true)
		checkCall(t, q, 0, w, false)
		q.Answer(0, w.Page, w.Obj, w.Write)
		checkCalled(t, q, 0, w, false, false)
		checkBusy(t, q, 0, w, false)
	}
}

// overwrite writes over all of a list, its spare room too.
func overwrite[T any](list []T, with T) {
	room := list[:cap(list)]
	for k := range room {
		room[k] = with
	}
}

// What All and Ahead tell is new memory: written over, spare room too, it changes neither the Queue, nor another answer.
func TestAnswersAreNewMemory(t *testing.T) {
	rows(nil, func(row []int) {
		q, p := queue.New(), &plain{}
		for k, client := range row {
			w := api.Want{Client: client, Page: 1, Obj: 1, Write: k%2 == 0}
			checkAdd(t, q, w, true)
			p.Add(w)
		}
		for client := range clients {
			w := toWrite(client, 1, 1)
			all, ahead := q.All(), q.Ahead(w)
			wantAll, wantAhead := slices.Clone(all), slices.Clone(ahead)
			overwrite(q.All(), toWrite(9, 9, 9))
			overwrite(q.Ahead(w), 9)
			if show(q) != show(p) || !slices.Equal(all, wantAll) || !slices.Equal(ahead, wantAhead) {
				t.Fatalf("%d: written over, what was told has changed %+v, %d, %+v", row, all, ahead, show(q))
			}
			// What is told isn't changed by what comes behind it, and doesn't stand where the next one is put.
			told := q.All()
			checkRemove(t, q, client, p.Remove(client))
			checkAdd(t, q, toRead(client, 2, 2), p.Add(toRead(client, 2, 2)))
			overwrite(told, toWrite(9, 9, 9))
			if show(q) != show(p) || !slices.Equal(all, wantAll) || !slices.Equal(ahead, wantAhead) {
				t.Fatalf("%d: behind Remove and Add %+v, %d, %+v", row, all, ahead, show(q))
			}
		}
	})
}

// P1: every call ends without a panic at all arguments.
func TestAllArguments(t *testing.T) {
	numbers := append(wrong(6), 0, 1, 2, 3, 4, 5)
	q := filled(t)
	for _, a := range numbers {
		for _, b := range numbers {
			q.Reserved(a, b)
			q.Out(a, b)
			for _, c := range numbers {
				for _, write := range []bool{false, true} {
					w := api.Want{Client: c, Page: a, Obj: b, Write: write}
					q.Ahead(w)
					q.Add(w)
					q.Call(c, w)
					q.Called(a, w)
					q.Busy(c, w)
					q.Answer(a, b, c, write)
				}
			}
		}
		q.Remove(a)
		q.Gone(a)
	}
	for _, w := range q.All() {
		checkAdd(t, queue.New(), w, true)
	}
}

// told is all that is told on the way of a row of calls that hangs on where the noise begins alone.
func told(seed int, between func()) []shown {
	n := noise(1 + 977*seed)
	q := queue.New()
	var list []shown
	for range 60 {
		between()
		do(q, n.below(kinds), n.below(clients), n.want(2, 2))
		list = append(list, show(q))
	}
	return list
}

// P2: what a queue answers hangs on the calls to it alone, whatever other queues are asked for in between.
func TestQueuesAreApart(t *testing.T) {
	for seed := range 30 {
		first := told(seed, func() {})
		other := queue.New()
		n := noise(3 + seed)
		again := told(seed, func() {
			for range 3 {
				do(other, n.below(kinds), n.below(clients), n.want(2, 2))
			}
			do(queue.New(), n.below(kinds), n.below(clients), n.want(2, 2))
		})
		if !slices.Equal(first, again) {
			t.Errorf("row %d: other answers the second time", seed)
		}
	}
}

// Two queues don't touch each other.
func TestTwoQueues(t *testing.T) {
	a, b := queue.New(), queue.New()
	checkAdd(t, a, toWrite(1, 1, 1), true)
	checkCall(t, a, 2, toWrite(1, 1, 1), true)
	checkAll(t, b)
	checkCalled(t, b, 2, toWrite(1, 1, 1), false, false)
	checkAdd(t, b, toRead(1, 2, 2), true)
	checkCall(t, b, 2, toWrite(1, 1, 1), true)
	checkBusy(t, b, 2, toWrite(1, 1, 1), true)
	checkAll(t, a, toWrite(1, 1, 1))
	checkCalled(t, a, 2, toWrite(1, 1, 1), true, false)
	a.Gone(1)
	a.Gone(2)
	checkAll(t, a)
	checkAll(t, b, toRead(1, 2, 2))
	checkCalled(t, b, 2, toWrite(1, 1, 1), true, true)
}

// P2: asking changes nothing.
func TestAskingChangesNothing(t *testing.T) {
	for _, q := range both(t) {
		before := show(q)
		for range 5 {
			if show(q) != before {
				t.Fatal("asked again, it tells something else")
			}
		}
	}
}
