package past_test

import (
	"math"
	"slices"
	"testing"

	"cloakroom/api"
	"cloakroom/cnum"
	"cloakroom/past"
	"cloakroom/wal"
)

const (
	pages = 6
	objs  = 4
)

func read(page, obj int, v complex128) api.Deed {
	return api.Deed{Page: page, Obj: obj, Value: v}
}

func write(page, obj int, v complex128) api.Deed {
	return api.Deed{Write: true, Page: page, Obj: obj, Value: v}
}

func put(page, obj int, v complex128) api.Put {
	return api.Put{Page: page, Obj: obj, Value: v}
}

// deal is an open one, of that client, epoch and transaction.
func deal(client, epoch, txn int, list ...api.Deed) api.Deal {
	return api.Deal{Client: client, Epoch: epoch, Txn: txn, Ended: -1, Deeds: list}
}

func did(list ...api.Deed) api.Deal {
	return deal(0, 1, 1, list...)
}

// commit is one of that client, epoch and transaction.
func commit(client, epoch, txn int, list ...api.Put) api.Batch {
	return api.Batch{LSN: 1, Client: client, Epoch: epoch, Txn: txn, Puts: list}
}

func samePut(a, b api.Put) bool {
	return a.Page == b.Page && a.Obj == b.Obj && cnum.Same(a.Value, b.Value)
}

func samePage(a, b api.Page) bool {
	return a.LSN == b.LSN && slices.EqualFunc(a.Objs[:], b.Objs[:], cnum.Same)
}

func checkFind(t *testing.T, l []api.Deal, b api.Batch, want int) {
	t.Helper()
	if got := past.Find(l, b); got != want {
		t.Errorf("Find in %+v of %+v: %d, not %d", l, b, got, want)
	}
}

func checkPuts(t *testing.T, d api.Deal, want ...api.Put) {
	t.Helper()
	if got := past.Puts(d); !slices.EqualFunc(got, want, samePut) {
		t.Errorf("Puts of %+v: %v, not %v", d, got, want)
	}
}

func checkReads(t *testing.T, d api.Deal, list []api.Page, want bool) {
	t.Helper()
	if past.Reads(d, list) != want {
		t.Errorf("Reads of %+v with %+v: not %t", d, list, want)
	}
}

func checkReplay(t *testing.T, log []api.Batch, want [pages]api.Page) {
	t.Helper()
	if got := past.Replay(log); !slices.EqualFunc(got, want[:], samePage) {
		t.Errorf("Replay of %+v: %+v, not %+v", log, got, want)
	}
}

// kinds are numbers: those of one row are the same, those of two rows aren't.
func kinds() [][]complex128 {
	nan, signed, small := math.NaN(), math.Float64frombits(0xFFF8000000000000), math.Float64frombits(0x7FF0000000000001)
	minus, inf := math.Copysign(0, -1), math.Inf(1)
	return [][]complex128{
		{0}, {complex(minus, 0)}, {complex(0, minus)}, {complex(minus, minus)},
		{1}, {1i}, {1 + 1i}, {-1}, {complex(1, minus)}, {math.SmallestNonzeroFloat64}, {math.MaxFloat64},
		{complex(inf, 0)}, {complex(-inf, 0)}, {complex(0, inf)}, {complex(inf, inf)},
		{complex(nan, 0), complex(signed, 0), complex(small, 0)},
		{complex(0, nan), complex(0, signed), complex(0, small)},
		{complex(nan, minus), complex(small, minus)},
		{complex(nan, nan), complex(signed, nan), complex(small, signed)},
		{complex(nan, inf), complex(signed, inf)},
	}
}

// pairs hands on two numbers each, and whether they are the same.
func pairs(each func(a, b complex128, same bool)) {
	for k, some := range kinds() {
		for i, others := range kinds() {
			for _, a := range some {
				for _, b := range others {
					each(a, b, k == i)
				}
			}
		}
	}
}

// valueAt is another one for each place.
func valueAt(page, obj int) complex128 {
	return complex(float64(page+1), float64(obj+1))
}

// filled are pages with another number in each object.
func filled() [pages]api.Page {
	var list [pages]api.Page
	for page := range pages {
		list[page].LSN = 10 + page
		for obj := range objs {
			list[page].Objs[obj] = valueAt(page, obj)
		}
	}
	return list
}

// places hands on all of them.
func places(each func(page, obj int)) {
	for page := range pages {
		for obj := range objs {
			each(page, obj)
		}
	}
}

// manyDeals are those of some clients, epochs and transactions, no two the same.
func manyDeals() []api.Deal {
	var l []api.Deal
	for _, txn := range []int{2, 1, 3, 16777215} {
		for _, client := range []int{3, 0, 2, 1} {
			for _, epoch := range []int{1, 3, 16777215, 2} {
				l = append(l, deal(client, epoch, txn))
			}
		}
	}
	return l
}

// P22.1 Find: the place of the Deal that has all three numbers; -1 where none has.
func TestFind(t *testing.T) {
	l := manyDeals()
	for k, d := range l {
		checkFind(t, l, commit(d.Client, d.Epoch, d.Txn), k)
		checkFind(t, l[:k], commit(d.Client, d.Epoch, d.Txn), -1)
		checkFind(t, l[k+1:], commit(d.Client, d.Epoch, d.Txn), -1)
		checkFind(t, slices.Concat(l[:k], l[k+1:]), commit(d.Client, d.Epoch, d.Txn), -1)
		checkFind(t, l[k:], commit(d.Client, d.Epoch, d.Txn), 0)
	}
}

// P22.1 Find: in no history there is none.
func TestFindInNone(t *testing.T) {
	for _, d := range manyDeals() {
		checkFind(t, nil, commit(d.Client, d.Epoch, d.Txn), -1)
		checkFind(t, []api.Deal{}, commit(d.Client, d.Epoch, d.Txn, put(1, 2, 3)), -1)
	}
}

// P22.1 Find: one whose Client, Epoch or Txn alone is another is none of its, nor is one that has them in another order.
func TestFindOfAnother(t *testing.T) {
	b := commit(1, 2, 3)
	others := [][3]int{{0, 2, 3}, {2, 2, 3}, {3, 2, 3}, {1, 1, 3}, {1, 3, 3}, {1, 16777215, 3}, {1, 2, 1}, {1, 2, 2}, {1, 2, 4}, {1, 2, 16777215},
		{1, 3, 2}, {2, 1, 3}, {2, 3, 1}, {3, 1, 2}, {3, 2, 1}, {0, 3, 3}, {2, 1, 3}, {1, 1, 4}, {0, 2, 4}}
	var l []api.Deal
	for _, x := range others {
		checkFind(t, []api.Deal{deal(x[0], x[1], x[2])}, b, -1)
		l = append(l, deal(x[0], x[1], x[2]))
		checkFind(t, l, b, -1)
		checkFind(t, append(slices.Clone(l), deal(1, 2, 3)), b, len(l))
	}
}

// P22.1 Find: of several Deals of one transaction the first one counts.
func TestFindFirst(t *testing.T) {
	a, b, c := deal(0, 1, 1), deal(0, 1, 2), deal(1, 1, 1)
	checkFind(t, []api.Deal{a, a}, commit(0, 1, 1), 0)
	checkFind(t, []api.Deal{b, a, a, a}, commit(0, 1, 1), 1)
	checkFind(t, []api.Deal{c, b, a, b, c, a}, commit(0, 1, 1), 2)
	checkFind(t, []api.Deal{c, b, a, b, c, a}, commit(0, 1, 2), 1)
	checkFind(t, []api.Deal{c, b, a, b, c, a}, commit(1, 1, 1), 0)
	l := manyDeals()
	for k, d := range l {
		checkFind(t, slices.Concat(l, l), commit(d.Client, d.Epoch, d.Txn), k)
		checkFind(t, slices.Concat(l[k:], l), commit(d.Client, d.Epoch, d.Txn), 0)
	}
}

// P22.1 Find: nothing else counts, neither of a commit nor of a Deal.
func TestFindByNothingElse(t *testing.T) {
	l := []api.Deal{deal(0, 1, 1), deal(2, 1, 7), deal(2, 1, 7)}
	l[1].Deeds = []api.Deed{write(1, 2, 3)}
	for _, state := range []int{api.DealOpen, api.DealDone, api.DealFailed, api.DealLost} {
		for _, time := range []int{-1, 0, 5, 500} {
			l[1].State, l[1].Began, l[1].Ended = state, 7, time
			b := commit(2, 1, 7)
			for _, lsn := range []int{0, 1, 2, 16777215} {
				b.LSN = lsn
				checkFind(t, l, b, 1)
			}
			b.Puts = []api.Put{put(4, 0, 9)}
			checkFind(t, l, b, 1)
		}
	}
}

// P22.1 Puts: a Deal without Deeds, or with reads alone, wrote nothing.
func TestPutsOfNone(t *testing.T) {
	checkPuts(t, did())
	checkPuts(t, api.Deal{Deeds: []api.Deed{}})
	places(func(page, obj int) {
		checkPuts(t, did(read(page, obj, 7)))
		checkPuts(t, did(read(page, obj, 7), read(0, 0, 1), read(page, obj, 8)))
	})
}

// P22.1 Puts: one write, at each place, among reads or not.
func TestPutsOfOne(t *testing.T) {
	places(func(page, obj int) {
		v := valueAt(page, obj)
		checkPuts(t, did(write(page, obj, v)), put(page, obj, v))
		checkPuts(t, did(read(page, obj, 7), write(page, obj, v), read(page, obj, 8), read(0, 0, 9), read(5, 3, 9)), put(page, obj, v))
	})
}

// P22.1 Puts: the order is that of layer 7, Page and then Obj, whatever the order of the Deeds is.
func TestPutsOrder(t *testing.T) {
	checkPuts(t, did(write(2, 1, 1), write(1, 2, 2)), put(1, 2, 2), put(2, 1, 1))
	checkPuts(t, did(write(1, 3, 1), write(1, 0, 2), write(0, 3, 3), write(5, 0, 4), write(1, 1, 5)),
		put(0, 3, 3), put(1, 0, 2), put(1, 1, 5), put(1, 3, 1), put(5, 0, 4))
	var all []api.Deed
	var want []api.Put
	places(func(page, obj int) {
		all = append(all, write(page, obj, valueAt(page, obj)))
		want = append(want, put(page, obj, valueAt(page, obj)))
	})
	checkPuts(t, did(all...), want...)
	slices.Reverse(all)
	checkPuts(t, did(all...), want...)
	for step := 1; step < 24; step++ {
		if step%2 == 0 || step%3 == 0 {
			continue
		}
		var mixed []api.Deed
		for k := range all {
			mixed = append(mixed, all[k*step%24])
		}
		checkPuts(t, did(mixed...), want...)
		if !wal.Right(commit(0, 1, 1, past.Puts(did(mixed...))...)) {
			t.Errorf("the Puts of %+v can't be a commit's", mixed)
		}
	}
}

// P22.1 Puts: of what was written several times there is the last value, once.
func TestPutsLast(t *testing.T) {
	places(func(page, obj int) {
		checkPuts(t, did(write(page, obj, 1), write(page, obj, 2)), put(page, obj, 2))
		checkPuts(t, did(write(page, obj, 3), write(page, obj, 2), read(page, obj, 2), write(page, obj, 1), read(page, obj, 9)), put(page, obj, 1))
		checkPuts(t, did(write(page, obj, 3), write(page, obj, 0)), put(page, obj, 0))
	})
	checkPuts(t, did(write(3, 1, 1), write(2, 3, 2), write(3, 1, 3), write(3, 2, 4), write(2, 3, 5), write(3, 2, 4)),
		put(2, 3, 5), put(3, 1, 3), put(3, 2, 4))
	checkPuts(t, did(write(0, 0, 1), write(0, 1, 2), write(1, 0, 3), write(0, 0, 4)), put(0, 0, 4), put(0, 1, 2), put(1, 0, 3))
}

// P22.1 Puts: zeros, infinities and what is not a number are written as all others are.
func TestPutsOfAllKinds(t *testing.T) {
	pairs(func(a, b complex128, same bool) {
		checkPuts(t, did(write(4, 2, a)), put(4, 2, a))
		checkPuts(t, did(write(4, 2, b), write(4, 2, a)), put(4, 2, a))
		checkPuts(t, did(write(4, 2, b), write(1, 2, a)), put(1, 2, a), put(4, 2, b))
		if !same && samePut(past.Puts(did(write(4, 2, b), write(4, 2, a)))[0], put(4, 2, b)) {
			t.Errorf("%v, written over with %v, is there still", b, a)
		}
	})
}

// P22.1 Puts: whose the Deal is, and what became of it, doesn't matter.
func TestPutsOfAnyDeal(t *testing.T) {
	for state := range 5 {
		d := deal(3, 7, 9, write(2, 2, 5))
		d.State, d.Began, d.Ended = state, 8, 12
		checkPuts(t, d, put(2, 2, 5))
	}
}

// P22.1 Reads: who reads nothing reads nothing wrong.
func TestReadsOfNone(t *testing.T) {
	list := filled()
	zeros := make([]api.Page, pages)
	places(func(page, obj int) {
		for _, d := range []api.Deal{did(), did(write(page, obj, 1)), did(write(page, obj, 1), write(page, obj, 2)), {Deeds: []api.Deed{}}} {
			checkReads(t, d, list[:], true)
			checkReads(t, d, zeros, true)
		}
	})
}

// P22.1 Reads: what it didn't write has the value of the pages, at each place, and no other place's.
func TestReadsOfPages(t *testing.T) {
	list := filled()
	places(func(page, obj int) {
		places(func(other, at int) {
			same := other == page && at == obj
			checkReads(t, did(read(page, obj, valueAt(other, at))), list[:], same)
			checkReads(t, did(read(page, obj, valueAt(page, obj)), read(other, at, valueAt(other, at))), list[:], true)
			checkReads(t, did(read(page, obj, valueAt(page, obj)), read(other, at, valueAt(page, obj))), list[:], same)
		})
		checkReads(t, did(read(page, obj, 0)), make([]api.Page, pages), true)
		checkReads(t, did(read(page, obj, 1)), make([]api.Page, pages), false)
	})
}

// P22.1 Reads: each of them counts, the first one, the last one and those between, and nothing else of Deal and pages does.
func TestReadsCountAll(t *testing.T) {
	list := filled()
	var right []api.Deed
	places(func(page, obj int) { right = append(right, read(page, obj, valueAt(page, obj))) })
	checkReads(t, did(right...), list[:], true)
	for k := range right {
		wrong := slices.Clone(right)
		wrong[k].Value++
		checkReads(t, did(wrong...), list[:], false)
		checkReads(t, did(append(right, wrong[k])...), list[:], false)
		checkReads(t, did(append(wrong[k:k+1:k+1], right...)...), list[:], false)
	}
	for state := range 5 {
		d := deal(3, 7, 9, right...)
		d.State, d.Began, d.Ended = state, 8, 12
		checkReads(t, d, list[:], true)
		for page := range list {
			list[page].LSN = state
		}
	}
}

// P22.1 Reads: what it wrote itself, once, twice, and behind a read, counts ahead of the pages, from then on.
func TestReadsOfItsOwn(t *testing.T) {
	list := filled()
	places(func(page, obj int) {
		old := valueAt(page, obj)
		checkReads(t, did(write(page, obj, 50), read(page, obj, 50)), list[:], true)
		checkReads(t, did(write(page, obj, 50), read(page, obj, old)), list[:], false)
		checkReads(t, did(write(page, obj, 50), write(page, obj, 60), read(page, obj, 60)), list[:], true)
		checkReads(t, did(write(page, obj, 50), write(page, obj, 60), read(page, obj, 50)), list[:], false)
		checkReads(t, did(write(page, obj, 50), read(page, obj, 50), write(page, obj, 60), read(page, obj, 60), read(page, obj, 60)), list[:], true)
		checkReads(t, did(write(page, obj, 50), read(page, obj, 60), write(page, obj, 60), read(page, obj, 60)), list[:], false)
		checkReads(t, did(read(page, obj, old), write(page, obj, 50), read(page, obj, 50)), list[:], true)
		checkReads(t, did(read(page, obj, 50), write(page, obj, 50), read(page, obj, 50)), list[:], false)
		checkReads(t, did(read(page, obj, old), write(page, obj, 50), read(page, obj, old)), list[:], false)
		checkReads(t, did(write(page, obj, 0), read(page, obj, 0)), list[:], true)
		checkReads(t, did(write(page, obj, 0), read(page, obj, old)), list[:], false)
		checkReads(t, did(write(page, obj, old), read(page, obj, old)), list[:], true)
	})
}

// P22.1 Reads: what it wrote counts for that object alone: not for others of the page, nor for the same one of other pages.
func TestReadsOfOthers(t *testing.T) {
	list := filled()
	places(func(page, obj int) {
		places(func(other, at int) {
			if other == page && at == obj {
				return
			}
			checkReads(t, did(write(page, obj, 50), read(other, at, valueAt(other, at))), list[:], true)
			checkReads(t, did(write(page, obj, 50), read(other, at, 50)), list[:], false)
			checkReads(t, did(write(page, obj, 50), write(other, at, 60), read(page, obj, 50), read(other, at, 60)), list[:], true)
			checkReads(t, did(write(page, obj, 50), write(other, at, 60), read(page, obj, 60)), list[:], false)
		})
	})
}

// P22.1 Reads: which values are the same is told by layer 1: 0 and -0 aren't, all that is not a number is.
func TestReadsBySame(t *testing.T) {
	pairs(func(a, b complex128, same bool) {
		var list [pages]api.Page
		list[3].Objs[1] = a
		checkReads(t, did(read(3, 1, b)), list[:], same)
		checkReads(t, did(write(3, 1, b), read(3, 1, a)), list[:], same)
		checkReads(t, did(write(2, 2, a), read(2, 2, b)), list[:], same)
		checkReads(t, did(write(2, 2, b), write(2, 2, a), read(2, 2, b)), list[:], same)
	})
}

// P22.2 Replay: no log, or one that writes nothing, leads to six zero pages.
func TestReplayOfNone(t *testing.T) {
	checkReplay(t, nil, [pages]api.Page{})
	checkReplay(t, []api.Batch{}, [pages]api.Page{})
	checkReplay(t, []api.Batch{commit(0, 1, 1), commit(1, 1, 2)}, [pages]api.Page{})
}

// P22.2 Replay: one batch, of one Put at each place, or of all.
func TestReplayOfOne(t *testing.T) {
	b := commit(2, 1, 1)
	b.LSN = 77
	var all [pages]api.Page
	places(func(page, obj int) {
		v := valueAt(page, obj)
		one := commit(1, 4, 9, put(page, obj, v))
		one.LSN = 16777215
		var want [pages]api.Page
		want[page].LSN, want[page].Objs[obj] = 16777215, v
		checkReplay(t, []api.Batch{one}, want)
		b.Puts = append(b.Puts, put(page, obj, v))
		all[page].LSN, all[page].Objs[obj] = 77, v
	})
	checkReplay(t, []api.Batch{b}, all)
}

// P22.2 Replay: an object that several batches write has the last one's value, and the page that one's LSN.
func TestReplayOfSeveral(t *testing.T) {
	log := []api.Batch{
		{LSN: 1, Client: 0, Epoch: 1, Txn: 1, Puts: []api.Put{put(1, 2, 5), put(3, 0, 6)}},
		{LSN: 2, Client: 1, Epoch: 1, Txn: 1, Puts: []api.Put{put(1, 2, 7), put(1, 3, 8)}},
		{LSN: 3, Client: 0, Epoch: 1, Txn: 2, Puts: []api.Put{put(0, 0, 9), put(1, 0, 10)}},
		{LSN: 4, Client: 2, Epoch: 1, Txn: 1},
		{LSN: 5, Client: 1, Epoch: 1, Txn: 2, Puts: []api.Put{put(3, 0, 0)}},
	}
	checkReplay(t, log[:1], [pages]api.Page{1: {LSN: 1, Objs: [objs]complex128{2: 5}}, 3: {LSN: 1, Objs: [objs]complex128{6}}})
	checkReplay(t, log[:2], [pages]api.Page{1: {LSN: 2, Objs: [objs]complex128{2: 7, 3: 8}}, 3: {LSN: 1, Objs: [objs]complex128{6}}})
	three := [pages]api.Page{{LSN: 3, Objs: [objs]complex128{9}}, {LSN: 3, Objs: [objs]complex128{10, 0, 7, 8}}, 3: {LSN: 1, Objs: [objs]complex128{6}}}
	checkReplay(t, log[:3], three)
	checkReplay(t, log[:4], three)
	three[3] = api.Page{LSN: 5}
	checkReplay(t, log, three)
	checkReplay(t, log[3:], [pages]api.Page{3: {LSN: 5}})
}

// P22.2 Replay: the order is the log's, whatever LSNs its batches have: the last one that wrote in a page counts.
func TestReplayOrder(t *testing.T) {
	first, second := commit(0, 1, 1, put(2, 1, 5), put(4, 0, 6)), commit(1, 1, 1, put(2, 1, 7), put(2, 2, 8))
	for _, lsns := range [][2]int{{1, 2}, {2, 1}, {9, 3}, {5, 5}, {16777215, 1}} {
		first.LSN, second.LSN = lsns[0], lsns[1]
		checkReplay(t, []api.Batch{first, second}, [pages]api.Page{
			2: {LSN: lsns[1], Objs: [objs]complex128{0, 7, 8}}, 4: {LSN: lsns[0], Objs: [objs]complex128{6}}})
		checkReplay(t, []api.Batch{second, first}, [pages]api.Page{
			2: {LSN: lsns[0], Objs: [objs]complex128{0, 5, 8}}, 4: {LSN: lsns[0], Objs: [objs]complex128{6}}})
		checkReplay(t, []api.Batch{first, second, first}, [pages]api.Page{
			2: {LSN: lsns[0], Objs: [objs]complex128{0, 5, 8}}, 4: {LSN: lsns[0], Objs: [objs]complex128{6}}})
	}
}

// P22.2 Replay: zeros, infinities and what is not a number are written as all others are.
func TestReplayOfAllKinds(t *testing.T) {
	pairs(func(a, b complex128, same bool) {
		var want [pages]api.Page
		want[5] = api.Page{LSN: 1, Objs: [objs]complex128{0, 0, 0, b}}
		checkReplay(t, []api.Batch{commit(0, 1, 1, put(5, 3, a)), commit(0, 1, 2, put(5, 3, b))}, want)
		if got := past.Replay([]api.Batch{commit(0, 1, 1, put(5, 3, a))}); samePage(got[5], want[5]) != same {
			t.Errorf("Replay of %v is %v", a, got[5].Objs[3])
		}
	})
}
