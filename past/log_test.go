package past_test

import (
	"slices"
	"testing"

	"cloakroom/api"
	"cloakroom/past"
)

func checkSerial(t *testing.T, l []api.Deal, log []api.Batch, want bool) {
	t.Helper()
	if past.Serial(l, log) != want {
		t.Errorf("Serial of %+v with the log %+v: not %t", l, log, want)
	}
}

func checkTold(t *testing.T, l []api.Deal, log []api.Batch, want bool) {
	t.Helper()
	if past.Told(l, log) != want {
		t.Errorf("Told of %+v with the log %+v: not %t", l, log, want)
	}
}

func checkOrder(t *testing.T, l []api.Deal, log []api.Batch, want bool) {
	t.Helper()
	if past.Order(l, log) != want {
		t.Errorf("Order of %+v with the log %+v: not %t", l, log, want)
	}
}

// commitsOf are those of Deals, with what they wrote, in that order.
func commitsOf(l ...api.Deal) []api.Batch {
	var log []api.Batch
	for k, d := range l {
		log = append(log, api.Batch{LSN: k + 1, Client: d.Client, Epoch: d.Epoch, Txn: d.Txn, Puts: past.Puts(d)})
	}
	return log
}

// timed is a Deal in a state, with its times.
func timed(client, txn, state, began, ended int) api.Deal {
	return api.Deal{Client: client, Epoch: 1, Txn: txn, State: state, Began: began, Ended: ended}
}

// The chapter's example: a read of what was never committed isn't Serial.
func TestChapterExample(t *testing.T) {
	writer, reader := deal(0, 1, 1, write(2, 1, 5)), deal(1, 1, 1, read(2, 1, 5), write(3, 0, 1))
	l := []api.Deal{writer, reader}
	checkSerial(t, l, commitsOf(reader), false)
	checkSerial(t, l, commitsOf(writer, reader), true)
	checkSerial(t, l, commitsOf(writer), true)
}

// P22.3 Serial: of no commits nothing is asked, whatever the Deals did.
func TestSerialOfNothing(t *testing.T) {
	for _, l := range [][]api.Deal{nil, {}, {did(read(1, 1, 9))}, {did(write(1, 1, 9)), deal(1, 1, 1, read(0, 0, 3))}} {
		checkSerial(t, l, nil, true)
		checkSerial(t, l, []api.Batch{}, true)
	}
}

// P22.3 Serial: each commit needs a Deal, the first one, the last one and those between; a Deal needs no commit.
func TestSerialWithoutDeal(t *testing.T) {
	l := []api.Deal{deal(0, 1, 1, write(1, 1, 5)), deal(1, 1, 1), deal(0, 1, 2, read(1, 1, 5)), deal(2, 3, 4, write(0, 0, 1))}
	log := commitsOf(l...)
	checkSerial(t, l, log, true)
	for k := range l {
		checkSerial(t, slices.Concat(l[:k], l[k+1:]), log, false)
		checkSerial(t, nil, log[k:k+1], false)
		for _, turn := range []func(d *api.Deal){func(d *api.Deal) { d.Client++ }, func(d *api.Deal) { d.Epoch++ }, func(d *api.Deal) { d.Txn += 7 }} {
			others := slices.Clone(l)
			turn(&others[k])
			checkSerial(t, others, log, false)
		}
	}
	checkSerial(t, l, []api.Batch{log[0], log[1], log[3]}, true)
	checkSerial(t, append(l, did(read(5, 3, 99))), log, true)
}

// P22.3 Serial: the Puts are those of the Deal: none more, none less, no others, and in the order of layer 7.
func TestSerialPuts(t *testing.T) {
	d := did(write(3, 1, 4), write(1, 1, 5), write(1, 3, 6), read(1, 1, 5), write(1, 1, 7))
	right := []api.Put{put(1, 1, 7), put(1, 3, 6), put(3, 1, 4)}
	checkSerial(t, []api.Deal{d}, []api.Batch{commit(0, 1, 1, right...)}, true)
	for k, p := range right {
		more, other := slices.Insert(slices.Clone(right), k, p), slices.Clone(right)
		other[k].Value++
		for _, list := range [][]api.Put{
			slices.Delete(slices.Clone(right), k, k+1), more, other, right[:k], append(slices.Clone(right), put(5, 3, complex(float64(k), 0))),
			append([]api.Put{put(0, k, 0)}, right...),
		} {
			checkSerial(t, []api.Deal{d}, []api.Batch{commit(0, 1, 1, list...)}, false)
		}
		for _, turn := range []api.Put{put(p.Page+1, p.Obj, p.Value), put(p.Page, p.Obj-1, p.Value), put(p.Page-1, p.Obj, p.Value)} {
			other = slices.Clone(right)
			other[k] = turn
			checkSerial(t, []api.Deal{d}, []api.Batch{commit(0, 1, 1, other...)}, false)
		}
	}
	for _, order := range [][3]int{{0, 2, 1}, {1, 0, 2}, {1, 2, 0}, {2, 0, 1}, {2, 1, 0}} {
		checkSerial(t, []api.Deal{d}, []api.Batch{commit(0, 1, 1, right[order[0]], right[order[1]], right[order[2]])}, false)
	}
	checkSerial(t, []api.Deal{d}, []api.Batch{commit(0, 1, 1, put(1, 1, 5), put(1, 3, 6), put(3, 1, 4))}, false)
}

// P22.3 Serial: who wrote nothing has a commit without Puts.
func TestSerialWithoutPuts(t *testing.T) {
	for _, d := range []api.Deal{did(), did(read(1, 1, 0)), {Epoch: 1, Txn: 1, Deeds: []api.Deed{}}} {
		checkSerial(t, []api.Deal{d}, []api.Batch{commit(0, 1, 1)}, true)
		checkSerial(t, []api.Deal{d}, []api.Batch{{LSN: 1, Epoch: 1, Txn: 1, Puts: []api.Put{}}}, true)
		checkSerial(t, []api.Deal{d}, []api.Batch{commit(0, 1, 1, put(0, 0, 0))}, false)
		checkSerial(t, []api.Deal{d}, []api.Batch{commit(0, 1, 1, put(1, 1, 0))}, false)
	}
	checkSerial(t, []api.Deal{did(write(0, 0, 0))}, []api.Batch{commit(0, 1, 1)}, false)
}

// P22.3 Serial: which values are the same is told by layer 1, in Puts and in reads.
func TestSerialBySame(t *testing.T) {
	pairs(func(a, b complex128, same bool) {
		checkSerial(t, []api.Deal{did(write(2, 3, a))}, []api.Batch{commit(0, 1, 1, put(2, 3, b))}, same)
		l := []api.Deal{did(write(2, 3, a)), deal(1, 1, 1, read(2, 3, b))}
		checkSerial(t, l, commitsOf(l...), same)
	})
}

// P22.3 Serial: reads are held against what the log ahead leads to, and against nothing that follows.
func TestSerialReads(t *testing.T) {
	early, late := deal(0, 1, 1, write(1, 1, 5)), deal(1, 1, 1, write(1, 1, 6))
	for _, v := range []complex128{0, 5, 6} {
		x := deal(2, 1, 1, read(1, 1, v))
		l := []api.Deal{early, late, x}
		checkSerial(t, l, commitsOf(x, early, late), v == 0)
		checkSerial(t, l, commitsOf(early, x, late), v == 5)
		checkSerial(t, l, commitsOf(early, late, x), v == 6)
		checkSerial(t, l, commitsOf(late, early, x), v == 5)
		checkSerial(t, l, commitsOf(late, x, early), v == 6)
		checkSerial(t, l, commitsOf(late, x), v == 6)
		checkSerial(t, l, commitsOf(x), v == 0)
		checkSerial(t, l, commitsOf(early, late), true)
	}
}

// P22.3 Serial: what the commit itself writes is no page's value to its own reads, but what it wrote ahead of them counts.
func TestSerialOfItsOwn(t *testing.T) {
	l := []api.Deal{deal(1, 1, 1, write(1, 1, 4)), did(read(1, 1, 4), write(1, 1, 5), read(1, 1, 5), write(1, 1, 6), read(1, 1, 6))}
	checkSerial(t, l, commitsOf(l...), true)
	for k, wrong := range map[int][]complex128{0: {0, 5, 6}, 2: {0, 4, 6}, 4: {0, 4, 5}} {
		for _, v := range wrong {
			other := l[1]
			other.Deeds = slices.Clone(other.Deeds)
			other.Deeds[k].Value = v
			checkSerial(t, []api.Deal{l[0], other}, commitsOf(l...), false)
		}
	}
	checkSerial(t, []api.Deal{did(write(1, 1, 5), read(1, 1, 0))}, []api.Batch{commit(0, 1, 1, put(1, 1, 5))}, false)
	checkSerial(t, []api.Deal{did(read(1, 1, 5), write(1, 1, 5))}, []api.Batch{commit(0, 1, 1, put(1, 1, 5))}, false)
	checkSerial(t, []api.Deal{did(read(1, 2, 0), write(1, 1, 5), read(1, 2, 0))}, []api.Batch{commit(0, 1, 1, put(1, 1, 5))}, true)
}

// P22.3 Serial: two that read each other's objects ahead of both writes are in no order right.
func TestSerialOfTwo(t *testing.T) {
	l := []api.Deal{deal(0, 1, 1, read(1, 1, 0), write(2, 2, 5)), deal(1, 1, 1, read(2, 2, 0), write(1, 1, 6))}
	checkSerial(t, l, commitsOf(l[0], l[1]), false)
	checkSerial(t, l, commitsOf(l[1], l[0]), false)
	l[1].Deeds[0].Value = 5
	checkSerial(t, l, commitsOf(l[0], l[1]), true)
	checkSerial(t, l, commitsOf(l[1], l[0]), false)
}

// P22.3 Serial: how the Deals ended, when, in which order they stand, and which LSNs the commits have doesn't matter.
func TestSerialByNothingElse(t *testing.T) {
	l := []api.Deal{deal(0, 1, 1, write(1, 1, 5)), deal(1, 1, 1, read(1, 1, 5), write(1, 1, 6)), deal(0, 1, 2, read(1, 1, 6))}
	log := commitsOf(l...)
	for state := range 5 {
		for k := range l {
			l[k].State, l[k].Began, l[k].Ended = state, 9-k, 3-state
			log[k].LSN = 20 - state*k
		}
		checkSerial(t, l, log, true)
		checkSerial(t, []api.Deal{l[2], l[0], l[1]}, log, true)
		checkSerial(t, l, []api.Batch{log[0], log[2], log[1]}, false)
	}
}

// P22.3 Serial: a commit's Deal is the first one of its transaction; one that is on the log twice is right, if it is each time.
func TestSerialOfSeveral(t *testing.T) {
	a, b := did(write(1, 1, 5)), did(write(1, 1, 6))
	checkSerial(t, []api.Deal{a, b}, commitsOf(a), true)
	checkSerial(t, []api.Deal{a, b}, commitsOf(b), false)
	checkSerial(t, []api.Deal{b, a}, commitsOf(b), true)
	checkSerial(t, []api.Deal{a}, commitsOf(a, a), true)
	again := did(read(1, 1, 0), write(1, 1, 5))
	checkSerial(t, []api.Deal{again}, commitsOf(again), true)
	checkSerial(t, []api.Deal{again}, commitsOf(again, again), false)
}

// P22.3 Told: who is told Done is on the log, just once; all others are at most once.
func TestTold(t *testing.T) {
	for state := range 4 {
		d := timed(1, 3, state, 2, 5)
		log := commitsOf(d, d, d)
		for many := range 4 {
			checkTold(t, []api.Deal{d}, log[:many], many == 1 || many == 0 && state != api.DealDone)
		}
		checkTold(t, []api.Deal{d}, []api.Batch{}, state != api.DealDone)
	}
	checkTold(t, nil, nil, true)
	checkTold(t, []api.Deal{}, []api.Batch{}, true)
}

// P22.3 Told: of several Deals each counts, the first one, the last one and those between, wherever their commits are.
func TestToldOfSeveral(t *testing.T) {
	for numbers := range 12 * 12 * 12 {
		var l []api.Deal
		var log []api.Batch
		want := true
		for k, n := range []int{numbers % 12, numbers / 12 % 12, numbers / 144} {
			state, many := n/3, n%3
			l = append(l, timed(k, 1, state, 1, 5))
			for range many {
				log = append(commitsOf(l[k]), log...)
			}
			want = want && (many == 1 || many == 0 && state != api.DealDone)
		}
		checkTold(t, l, log, want)
		if len(log) > 2 {
			checkTold(t, l, slices.Concat(log[2:], log[:2]), want)
		}
	}
}

// P22.3 Told: a commit that is no Deal's doesn't matter, nor is it any other one's.
func TestToldOfOthers(t *testing.T) {
	d := timed(1, 3, api.DealDone, 2, 5)
	strange := []api.Batch{commit(2, 1, 3), commit(1, 2, 3), commit(1, 1, 4), commit(3, 1, 1)}
	checkTold(t, nil, strange, true)
	for k := range strange {
		checkTold(t, []api.Deal{d}, strange[k:k+1], false)
		checkTold(t, []api.Deal{d}, append(strange[k:k+1:k+1], commit(1, 1, 3)), true)
		checkTold(t, []api.Deal{d}, slices.Concat(strange, strange, commitsOf(d)), true)
		checkTold(t, []api.Deal{d}, slices.Concat(strange[:k], commitsOf(d), strange[k:], commitsOf(d)), false)
	}
}

// P22.3 Told: a commit is that of the first Deal of its transaction, and of no later one.
func TestToldOfTwins(t *testing.T) {
	for first := range 4 {
		for second := range 4 {
			l := []api.Deal{timed(1, 3, first, 2, 5), timed(1, 3, second, 2, 5)}
			checkTold(t, l, nil, first != api.DealDone && second != api.DealDone)
			checkTold(t, l, commitsOf(l[0]), second != api.DealDone)
			checkTold(t, l, commitsOf(l...), false)
		}
	}
}

// P22.3 Told: what the Deals did and what the commits say, their times, and the log's order don't matter.
func TestToldByNothingElse(t *testing.T) {
	l := []api.Deal{timed(0, 1, api.DealDone, 5, 3), timed(1, 1, api.DealDone, 1, 2), timed(0, 2, api.DealLost, 9, 9), timed(3, 1, api.DealOpen, 7, -1)}
	l[0].Deeds = []api.Deed{read(1, 1, 9), write(2, 2, 5)}
	log := []api.Batch{commit(0, 1, 2, put(1, 1, 9)), commit(1, 1, 1), commit(0, 1, 1, put(3, 0, 8))}
	log[0].LSN = 16777215
	checkTold(t, l, log, true)
	slices.Reverse(log)
	checkTold(t, l, log, true)
	slices.Reverse(l)
	checkTold(t, l, log, true)
	checkTold(t, l, log[1:], false)
	checkTold(t, l, log[:2], true)
}

// P22.3 Order: of two Deals one of which ends ahead of the other one's beginning, at it, and behind it, in any states, with their
// commits in either order: wrong is alone that one which is Done ended ahead and is behind on the log.
func TestOrder(t *testing.T) {
	for states := range 16 {
		for _, ended := range []int{-1, 0, 4, 9, 10, 11, 30} {
			a, b := timed(0, 1, states%4, 3, ended), timed(1, 1, states/4, 10, 20)
			late := a.State == api.DealDone && ended < 10
			for _, l := range [][]api.Deal{{a, b}, {b, a}} {
				checkOrder(t, l, commitsOf(a, b), true)
				checkOrder(t, l, commitsOf(b, a), !late)
				checkOrder(t, l, commitsOf(a), true)
				checkOrder(t, l, commitsOf(b), true)
				checkOrder(t, l, nil, true)
			}
		}
	}
}

// P22.3 Order: with nothing, or one Deal alone, there is nothing that could be wrong, whatever its times are.
func TestOrderOfNothing(t *testing.T) {
	checkOrder(t, nil, nil, true)
	checkOrder(t, []api.Deal{}, []api.Batch{}, true)
	for _, times := range [][2]int{{0, -1}, {5, 3}, {5, 5}, {5, 9}} {
		d := timed(0, 1, api.DealDone, times[0], times[1])
		checkOrder(t, []api.Deal{d}, nil, true)
		checkOrder(t, []api.Deal{d}, commitsOf(d), true)
		checkOrder(t, []api.Deal{d}, commitsOf(d, d), true)
		checkOrder(t, []api.Deal{d}, slices.Concat(commitsOf(d), []api.Batch{commit(3, 3, 3)}, commitsOf(d)), true)
	}
}

// P22.3 Order: every two count, next to each other on the log or not; three Deals one behind the other have one right order.
func TestOrderOfThree(t *testing.T) {
	l := []api.Deal{timed(0, 1, api.DealDone, 1, 2), timed(1, 1, api.DealDone, 3, 4), timed(2, 1, api.DealDone, 5, 6)}
	for _, o := range [][3]int{{0, 1, 2}, {0, 2, 1}, {1, 0, 2}, {1, 2, 0}, {2, 0, 1}, {2, 1, 0}} {
		log := commitsOf(l[o[0]], l[o[1]], l[o[2]])
		checkOrder(t, l, log, o[0] < o[1] && o[1] < o[2])
		for k := range 3 {
			// One that isn't told anything may be behind or ahead of those that follow it in time, but not of those ahead in time.
			some := slices.Clone(l)
			some[k].State = api.DealLost
			want := true
			for i, a := range o {
				for _, b := range o[i+1:] {
					want = want && (a < b || b == k)
				}
			}
			checkOrder(t, some, log, want)
		}
	}
	// Those between were there all the time: nothing holds their commits.
	wide := []api.Deal{l[0], timed(3, 1, api.DealDone, 1, 9), timed(3, 2, api.DealDone, 2, 5), l[2]}
	checkOrder(t, wide, commitsOf(wide[1], wide[0], wide[3], wide[2]), true)
	checkOrder(t, wide, commitsOf(wide[3], wide[1], wide[2], wide[0]), false)
}

// P22.3 Order: a commit that is no Deal's doesn't matter, and a Deal that isn't on the log doesn't either.
func TestOrderOfOthers(t *testing.T) {
	a, b, away := timed(0, 1, api.DealDone, 1, 2), timed(1, 1, api.DealDone, 3, 4), timed(2, 1, api.DealDone, 0, 0)
	strange := commit(3, 1, 1)
	for _, l := range [][]api.Deal{{a, b, away}, {away, b, a}} {
		for k := range 3 {
			checkOrder(t, l, slices.Insert(commitsOf(a, b), k, strange), true)
			checkOrder(t, l, slices.Insert(commitsOf(b, a), k, strange), false)
		}
		checkOrder(t, l, []api.Batch{strange, strange}, true)
	}
	checkOrder(t, []api.Deal{a}, commitsOf(b, a), true)
	checkOrder(t, []api.Deal{b}, commitsOf(b, a), true)
}

// P22.3 Order: a commit is that of the first Deal of its transaction, so a later one isn't on the log.
func TestOrderOfTwins(t *testing.T) {
	early, late, other := timed(0, 1, api.DealDone, 1, 2), timed(0, 1, api.DealDone, 5, 6), timed(1, 1, api.DealDone, 3, 4)
	checkOrder(t, []api.Deal{early, late, other}, commitsOf(other, early), false)
	checkOrder(t, []api.Deal{late, early, other}, commitsOf(other, early), true)
	checkOrder(t, []api.Deal{early, late, other}, commitsOf(early, other), true)
	checkOrder(t, []api.Deal{late, early, other}, commitsOf(early, other), false)
}

// P22.3 Order: one that is on the log twice is ahead of the other one with both, or it isn't.
func TestOrderOfDoubles(t *testing.T) {
	a, b := timed(0, 1, api.DealDone, 1, 2), timed(1, 1, api.DealDone, 3, 4)
	l := []api.Deal{a, b}
	checkOrder(t, l, commitsOf(a, a, b), true)
	checkOrder(t, l, commitsOf(a, b, b), true)
	checkOrder(t, l, commitsOf(a, b, a), false)
	checkOrder(t, l, commitsOf(b, a, b), false)
	checkOrder(t, l, commitsOf(b, a, a), false)
}

// P22.3 Order: what the Deals did, what the commits say, and their LSNs don't matter.
func TestOrderByNothingElse(t *testing.T) {
	a, b := timed(0, 1, api.DealDone, 1, 2), timed(1, 1, api.DealFailed, 3, -1)
	a.Deeds = []api.Deed{read(1, 1, 9), write(2, 2, 5)}
	log := []api.Batch{commit(0, 1, 1, put(3, 3, 3)), commit(1, 1, 1)}
	log[0].LSN, log[1].LSN = 9, 2
	checkOrder(t, []api.Deal{a, b}, log, true)
	slices.Reverse(log)
	checkOrder(t, []api.Deal{a, b}, log, false)
	log[0].LSN, log[1].LSN = 2, 9
	checkOrder(t, []api.Deal{b, a}, log, false)
}
