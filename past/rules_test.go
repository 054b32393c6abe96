package past_test

import (
	"fmt"
	"math"
	"slices"
	"testing"

	"cloakroom/api"
	"cloakroom/past"
)

// shows is all that is shown of a history, a log, and pages.
func shows(l []api.Deal, log []api.Batch, list []api.Page) string {
	text := fmt.Sprintf("%t %t %t %+v", past.Serial(l, log), past.Told(l, log), past.Order(l, log), past.Replay(log))
	for _, b := range log {
		text += fmt.Sprintf(" %d", past.Find(l, b))
	}
	for _, d := range l {
		text += fmt.Sprintf(" %+v %t", past.Puts(d), past.Reads(d, list))
	}
	return text
}

// histories are some, right ones and others, each with a log and the pages to which it leads.
func histories(each func(l []api.Deal, log []api.Batch, list []api.Page)) {
	n := noise(2463534242)
	for round := range 40 {
		l, log := n.history(1 + round%20)
		list := plainReplay(log)
		each(l, log, list[:])
		l, log = n.turned(l, log)
		each(l, log, list[:])
	}
	each(nil, nil, make([]api.Page, pages))
}

// P2: what is shown hangs on what is handed in alone, whatever was asked ahead of it, and wherever it lies.
func TestAskedAgain(t *testing.T) {
	histories(func(l []api.Deal, log []api.Batch, list []api.Page) {
		want := shows(l, log, list)
		n := noise(1 + len(want))
		other, otherLog := n.history(12)
		shows(other, otherLog, list)
		if again := shows(l, log, list); again != want {
			t.Errorf("asked again, it shows %s, not %s", again, want)
		}
		l, log = copies(l, log)
		if again := shows(l, log, slices.Clone(list)); again != want {
			t.Errorf("of a copy it shows %s, not %s", again, want)
		}
	})
}

// wide is a list with something behind it, that is its spare room when it is cut to its length.
func wide[T any](list []T, spare ...T) []T {
	return append(slices.Clone(list), spare...)
}

// What is handed in is not changed, spare room included, and that room says nothing.
func TestArgumentsStayAsTheyAre(t *testing.T) {
	histories(func(l []api.Deal, log []api.Batch, list []api.Page) {
		want := shows(l, log, list)
		wideL := wide(l, deal(3, 9, 9, write(4, 3, 77)), deal(0, 1, 1))
		wideLog := wide(log, commit(3, 9, 9, put(4, 3, 77)), commit(0, 1, 1))
		wideList := wide(list, api.Page{LSN: 77}, api.Page{LSN: 78})
		var deeds [][]api.Deed
		var puts [][]api.Put
		for k, d := range l {
			deeds = append(deeds, wide(d.Deeds, write(4, 3, 77), read(4, 3, 78)))
			wideL[k].Deeds = deeds[k][:len(d.Deeds)]
		}
		for k, b := range log {
			puts = append(puts, wide(b.Puts, put(4, 3, 77), put(5, 3, 77)))
			wideLog[k].Puts = puts[k][:len(b.Puts)]
		}
		all := func() string { return fmt.Sprintf("%+v %+v %+v %+v %+v", wideL, wideLog, wideList, deeds, puts) }
		before := all()
		if got := shows(wideL[:len(l)], wideLog[:len(log)], wideList[:len(list)]); got != want {
			t.Errorf("with spare room it shows %s, not %s", got, want)
		}
		if now := all(); now != before {
			t.Errorf("%s has become %s", before, now)
		}
	})
}

// What is handed in is not kept: written over, it changes nothing that was told.
func TestArgumentsAreNotKept(t *testing.T) {
	histories(func(l []api.Deal, log []api.Batch, list []api.Page) {
		mine, mineLog := copies(l, log)
		replayed := past.Replay(mineLog)
		var puts [][]api.Put
		for _, d := range mine {
			puts = append(puts, past.Puts(d))
		}
		before := fmt.Sprintf("%+v %+v", replayed, puts)
		for k := range mine {
			for i := range mine[k].Deeds {
				mine[k].Deeds[i] = write(0, 0, 99)
			}
			mine[k] = deal(0, 1, 1)
		}
		for k := range mineLog {
			for i := range mineLog[k].Puts {
				mineLog[k].Puts[i] = put(0, 0, 99)
			}
			mineLog[k] = commit(0, 1, 1)
		}
		if now := fmt.Sprintf("%+v %+v", replayed, puts); now != before {
			t.Errorf("%s has become %s", before, now)
		}
	})
}

// What Puts and Replay tell is new memory: written over, spare room too, it changes neither what was handed in nor another answer.
func TestAnswersAreNewMemory(t *testing.T) {
	histories(func(l []api.Deal, log []api.Batch, list []api.Page) {
		before, shown := fmt.Sprintf("%+v %+v", l, log), shows(l, log, list)
		first := past.Replay(log)
		replayed := past.Replay(log)
		replayed = replayed[:cap(replayed)]
		for k := range replayed {
			replayed[k] = api.Page{LSN: 99, Objs: [objs]complex128{99, 99, 99, 99}}
		}
		if want := plainReplay(log); !slices.EqualFunc(first, want[:], samePage) {
			t.Errorf("%+v has become %+v", want, first)
		}
		for _, d := range l {
			first, puts := past.Puts(d), past.Puts(d)
			puts = puts[:cap(puts)]
			for k := range puts {
				puts[k] = put(9, 9, 99)
			}
			if want := plainPuts(d); !slices.EqualFunc(first, want, samePut) {
				t.Errorf("%v has become %v", want, first)
			}
		}
		if now := fmt.Sprintf("%+v %+v", l, log); now != before || shows(l, log, list) != shown {
			t.Errorf("%s has become %s", before, now)
		}
	})
}

// A list may be nil or empty: the two are one.
func TestNilAndEmpty(t *testing.T) {
	histories(func(l []api.Deal, log []api.Batch, list []api.Page) {
		want := shows(l, log, list)
		mine, mineLog := copies(l, log)
		for _, empty := range []bool{true, false} {
			for k := range mine {
				if len(mine[k].Deeds) == 0 {
					mine[k].Deeds = nil
					if empty {
						mine[k].Deeds = []api.Deed{}
					}
				}
			}
			for k := range mineLog {
				if len(mineLog[k].Puts) == 0 {
					mineLog[k].Puts = nil
					if empty {
						mineLog[k].Puts = []api.Put{}
					}
				}
			}
			if got := shows(mine, mineLog, list); got != want {
				t.Errorf("with empty lists it shows %s, not %s", got, want)
			}
		}
	})
}

// numbers are those that can be a place, a client or anything, and those that can't.
func numbers() []int {
	return []int{math.MinInt, math.MinInt + 1, -1 << 32, -16777216, -4, -1, 0, 1, 3, 4, 5, 6, 7, 23, 24, 16777215, 16777216, 1<<32 + 1, math.MaxInt - 1, math.MaxInt}
}

// use makes all calls: none may panic.
func use(l []api.Deal, log []api.Batch) {
	shows(l, log, nil)
	for _, many := range []int{0, 1, 2, 5, 6, 7, 100} {
		list := make([]api.Page, many)
		for k := range list {
			list[k].LSN = -k
		}
		for _, d := range l {
			past.Reads(d, list)
		}
	}
}

// P1: places that can't be, in Deeds and in batches, and too few pages, or too many.
func TestPlacesThatCannotBe(t *testing.T) {
	for _, page := range numbers() {
		for _, obj := range numbers() {
			for _, v := range []complex128{0, 5, complex(math.NaN(), math.Inf(-1))} {
				l := []api.Deal{
					did(read(page, obj, v)), did(write(page, obj, v), read(page, obj, v)), did(read(obj, page, v), write(page, obj, v)),
					did(write(1, 1, v), read(page, 1, v), read(1, obj, v), write(obj, obj, v), write(page, page, v), read(1, 1, v)),
				}
				for _, d := range l {
					use([]api.Deal{d}, []api.Batch{commit(0, 1, 1, put(page, obj, v)), commit(0, 1, 1, put(1, 1, v), put(obj, page, v), put(page, obj, v))})
					use([]api.Deal{d}, []api.Batch{commit(0, 1, 1, past.Puts(d)...), commit(0, 1, 1)})
				}
			}
		}
	}
}

// P1: Clients, Epochs, Txns, LSNs, times and states of any number.
func TestAllNumbers(t *testing.T) {
	for _, a := range numbers() {
		for _, b := range numbers() {
			l := []api.Deal{
				{Client: a, Epoch: b, Txn: a, Began: b, Ended: a, State: api.DealDone, Deeds: []api.Deed{write(1, 1, 1)}},
				{Client: b, Epoch: a, Txn: b, Began: a, Ended: b, State: b},
				{Client: a, Epoch: a, Txn: b, Began: a, Ended: a, State: a, Deeds: []api.Deed{read(1, 1, 0)}},
				{State: 1}, {},
			}
			log := []api.Batch{{LSN: a, Client: b, Epoch: a, Txn: b}, {LSN: b, Client: a, Epoch: b, Txn: a, Puts: past.Puts(l[0])}, {LSN: a}, {}}
			use(l, log)
			use(l[1:], log)
			use(l, log[1:])
			use(nil, log)
			use(l, nil)
			checkFind(t, l[:2], commit(a, b, a), 0)
			checkFind(t, l[:1], commit(a, b, b), one(a == b)-1)
		}
	}
}

// one is 1 for yes.
func one(yes bool) int {
	if yes {
		return 1
	}
	return 0
}

// P1: what is long ends, too.
func TestLongLists(t *testing.T) {
	var d api.Deal
	for k := range 200000 {
		d.Deeds = append(d.Deeds, api.Deed{Write: k%2 == 0, Page: k / 2 % pages, Obj: k / 2 % objs, Value: complex(float64(k/2), 0)})
	}
	checkReads(t, d, make([]api.Page, pages), true)
	if list := past.Puts(d); len(list) != 12 || list[0] != put(0, 0, 99996) {
		t.Errorf("%v", list)
	}
	var l []api.Deal
	for k := range 3000 {
		l = append(l, api.Deal{Client: k % 4, Epoch: 1, Txn: 1 + k, Began: 2 * k, Ended: 2*k + 1, State: api.DealDone})
		l[k].Deeds = []api.Deed{read(2, 2, complex(float64(k), 0)), write(2, 2, complex(float64(k+1), 0))}
	}
	log := commitsOf(l...)
	checkReplay(t, log, [pages]api.Page{2: {LSN: 3000, Objs: [objs]complex128{2: 3000}}})
	if !past.Serial(l, log) || !past.Told(l, log) || !past.Order(l, log) {
		t.Error("a long history is right")
	}
	log[2999], log[2998] = log[2998], log[2999]
	if past.Serial(l, log) || !past.Told(l, log) || past.Order(l, log) {
		t.Error("the last two commits stand the other way round")
	}
}
