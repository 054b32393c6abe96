package msg_test

import (
	"fmt"
	"math"
	"slices"
	"testing"

	"cloakroom/api"
	"cloakroom/msg"
)

const (
	maxNum   = 16777215
	allKinds = 9
	objs     = 4
	mostPuts = 24
)

// edges holds numbers about all edges that a part may have, and numbers whose lowest bits are those of such ones.
var edges = []int{math.MinInt, math.MinInt + 1, math.MinInt32, -maxNum, -16, -1, 0, 1, 2, 3, 4, 5, 6, 7, 8, 9, 14, 15, 16, 255, 256,
	998, 999, 1000, 65535, 65536, maxNum - 1, maxNum, maxNum + 1, maxNum + 2, 1 << 32, 1<<32 + 1, 1<<62 + 1, math.MaxInt - 1, math.MaxInt}

var (
	minus = math.Copysign(0, -1)
	// oneNaN is what is not a number in its one form, otherNaN and thirdNaN are by other bits.
	oneNaN   = math.Float64frombits(0x7FF8000000000001)
	otherNaN = math.Float64frombits(0xFFF8000000000123)
	thirdNaN = math.Float64frombits(0x7FF8000000000000)
)

// floats holds parts of complex numbers of all kinds.
var floats = []float64{0, minus, 1, -2.5, math.Inf(1), math.Inf(-1), oneNaN, otherNaN, thirdNaN, math.MaxFloat64, math.SmallestNonzeroFloat64}

// bounds is from where to where a part goes; none of them where a kind doesn't have it, since it is 0 then.
type bounds struct{ least, most int }

func (b bounds) has(n int) bool {
	return n >= b.least && n <= b.most
}

// rule is what the chapter says of a kind.
type rule struct {
	page, obj, txn, copies, own bounds
	write, puts, values         bool
}

var (
	pages  = bounds{0, 5}
	places = bounds{0, 3}
	nums   = bounds{0, maxNum}
	masks  = bounds{0, 15}
	fails  = bounds{1, 999}
)

// rules are those of the kinds, by their numbers.
var rules = [allKinds]rule{
	0: {page: pages, obj: places},
	1: {page: pages, obj: places},
	2: {txn: nums, puts: true},
	3: {page: pages, copies: masks, own: masks},
	4: {page: pages, obj: places, write: true},
	5: {page: pages, copies: masks, own: masks, values: true},
	6: {page: pages, obj: places, write: true},
	7: {txn: nums},
	8: {txn: nums, copies: fails},
}

func put(page, obj int, value complex128) api.Put {
	return api.Put{Page: page, Obj: obj, Value: value}
}

// firstPuts are Puts on the first so many places, in their order.
func firstPuts(many int) []api.Put {
	var l []api.Put
	for k := range many {
		l = append(l, put(k/objs, k%objs, complex(float64(k), -float64(k))))
	}
	return l
}

// putsCanBe is what layer 7 says of Puts, told plainly.
func putsCanBe(puts []api.Put) bool {
	for k, p := range puts {
		if !pages.has(p.Page) || !places.has(p.Obj) {
			return false
		}
		if k > 0 && (puts[k-1].Page > p.Page || puts[k-1].Page == p.Page && puts[k-1].Obj >= p.Obj) {
			return false
		}
	}
	return len(puts) <= mostPuts
}

// isZero tells whether all bits of a number are 0.
func isZero(c complex128) bool {
	return math.Float64bits(real(c)) == 0 && math.Float64bits(imag(c)) == 0
}

// rightBeside is Right as the chapter tells it.
func rightBeside(m api.Msg) bool {
	if m.Kind < 0 || m.Kind >= allKinds {
		return false
	}
	r := rules[m.Kind]
	for _, c := range m.Values {
		if !r.values && !isZero(c) {
			return false
		}
	}
	return r.page.has(m.Page) && r.obj.has(m.Obj) && r.txn.has(m.Txn) && r.copies.has(m.Copy) && r.own.has(m.Own) &&
		(r.write || !m.Write) && (r.puts || len(m.Puts) == 0) && putsCanBe(m.Puts)
}

// ordinary is a message of each kind that can be, with all that it has.
func ordinary(kind int) api.Msg {
	return [allKinds]api.Msg{
		{Kind: 0, Page: 2, Obj: 1},
		{Kind: 1, Page: 4, Obj: 2},
		{Kind: 2, Txn: 77, Puts: []api.Put{put(0, 3, 1+2i), put(2, 0, -5), put(2, 1, 1i)}},
		{Kind: 3, Page: 1, Copy: 6, Own: 9},
		{Kind: 4, Page: 3, Obj: 2, Write: true},
		{Kind: 5, Page: 4, Copy: 11, Own: 3, Values: [objs]complex128{1 + 2i, 3, -4i, 5 - 6i}},
		{Kind: 6, Page: 5, Obj: 1, Write: true},
		{Kind: 7, Txn: 300},
		{Kind: 8, Txn: 70000, Copy: 151},
	}[kind]
}

// samples are messages of all kinds that can be, with each part at its edges.
func samples() []api.Msg {
	var l []api.Msg
	for kind, r := range rules {
		m := ordinary(kind)
		l = append(l, m)
		for _, page := range []int{r.page.least, r.page.most} {
			for _, obj := range []int{r.obj.least, r.obj.most} {
				for _, txn := range []int{r.txn.least, r.txn.most} {
					m.Page, m.Obj, m.Txn = page, obj, txn
					for _, mask := range []int{r.copies.least, r.copies.most} {
						m.Copy, m.Own = mask, r.own.least
						l = append(l, m)
						m.Own = r.own.most
						l = append(l, m)
					}
				}
			}
		}
		m.Write = false
		l = append(l, m)
	}
	for _, many := range []int{0, 1, 2, 23, 24} {
		l = append(l, api.Msg{Kind: 2, Txn: many, Puts: firstPuts(many)})
	}
	l = append(l, api.Msg{Kind: 2, Txn: 1, Puts: []api.Put{put(5, 3, 7)}})
	for _, f := range floats {
		c := complex(f, 1)
		l = append(l, api.Msg{Kind: 2, Txn: 5, Puts: []api.Put{put(1, 1, c), put(4, 0, complex(-1, f))}})
		l = append(l, api.Msg{Kind: 5, Copy: 15, Values: [objs]complex128{c, complex(2, f), 3, complex(f, f)}})
	}
	return l
}

// bits tells a complex number by the bits of its parts, all that is not a number in one form.
func bits(c complex128) string {
	return fmt.Sprintf("%x", value(c))
}

// told is a message as text, with the bits of all parts; nil and empty Puts are one.
func told(m api.Msg) string {
	text := fmt.Sprintf("[%d: %d %d %d %d %d %t |", m.Kind, m.Page, m.Obj, m.Txn, m.Copy, m.Own, m.Write)
	for k, p := range m.Puts {
		if k == 30 {
			return text + " ..."
		}
		text += fmt.Sprintf(" %d.%d=%s", p.Page, p.Obj, bits(p.Value))
	}
	text += " |"
	for _, c := range m.Values {
		text += " " + bits(c)
	}
	return text + "]"
}

func checkRight(t *testing.T, m api.Msg, want bool) {
	t.Helper()
	if got := msg.Right(m); got != want {
		t.Errorf("Right of %s: %t", told(m), got)
	}
	// What can't be has no bytes; Bytes asks the same.
	if b, e := msg.Bytes(m); want != (e == api.OK) || !want && (e != 101 || len(b) != 0) {
		t.Errorf("Bytes of %s: %x, %d", told(m), b, e)
	}
}

// The section Errors, the kinds and the limits.
func TestNumbers(t *testing.T) {
	if api.OK != 0 || api.ErrMsg != 101 {
		t.Error(api.OK, api.ErrMsg)
	}
	if api.MaxNum != maxNum || api.MaxPages != 6 || api.MaxObjs != objs || api.MaxPuts != mostPuts || api.MaxClients != 4 {
		t.Error(api.MaxNum, api.MaxPages, api.MaxObjs, api.MaxPuts, api.MaxClients)
	}
	kinds := []int{api.AskRead, api.AskWrite, api.Commit, api.Release, api.Busy, api.Grant, api.Call, api.Done, api.Fail}
	for number, kind := range kinds {
		if kind != number {
			t.Errorf("kind %d is %d", number, kind)
		}
	}
}

// P10.1 Right: messages that can be, by the kinds' names and written out.
func TestRightWrittenOut(t *testing.T) {
	all := firstPuts(mostPuts)
	for _, m := range []api.Msg{
		{}, {Kind: api.AskRead, Page: 5, Obj: 3}, {Kind: api.AskWrite, Page: 5, Obj: 3}, {Kind: api.AskWrite},
		{Kind: api.Commit}, {Kind: api.Commit, Txn: maxNum, Puts: all}, {Kind: api.Commit, Puts: []api.Put{}},
		{Kind: api.Release}, {Kind: api.Release, Page: 5, Copy: 15, Own: 15}, {Kind: api.Release, Own: 8},
		{Kind: api.Busy}, {Kind: api.Busy, Page: 5, Obj: 3, Write: true}, {Kind: api.Busy, Page: 5, Obj: 3},
		{Kind: api.Grant}, {Kind: api.Grant, Page: 5, Copy: 15, Own: 15, Values: [objs]complex128{1, 2, 3, 4}}, {Kind: api.Grant, Own: 4},
		{Kind: api.Call}, {Kind: api.Call, Page: 5, Obj: 3, Write: true}, {Kind: api.Call, Page: 5, Obj: 3},
		{Kind: api.Done}, {Kind: api.Done, Txn: maxNum},
		{Kind: api.Fail, Copy: 1}, {Kind: api.Fail, Txn: maxNum, Copy: 999},
	} {
		checkRight(t, m, true)
	}
	for _, m := range []api.Msg{
		{Txn: 1}, {Copy: 1}, {Own: 1}, {Write: true}, {Kind: api.AskWrite, Write: true}, {Puts: all[:1]},
		{Kind: api.Commit, Page: 1}, {Kind: api.Commit, Obj: 1}, {Kind: api.Commit, Copy: 1}, {Kind: api.Commit, Write: true},
		{Kind: api.Release, Obj: 1}, {Kind: api.Release, Txn: 1}, {Kind: api.Release, Values: [objs]complex128{0, 0, 0, 1}}, {Kind: api.Release, Copy: 16},
		{Kind: api.Busy, Txn: 1}, {Kind: api.Busy, Copy: 1}, {Kind: api.Busy, Own: 1}, {Kind: api.Busy, Obj: 4},
		{Kind: api.Grant, Obj: 1}, {Kind: api.Grant, Txn: 1}, {Kind: api.Grant, Write: true}, {Kind: api.Grant, Puts: all[:1]},
		{Kind: api.Call, Txn: 1}, {Kind: api.Call, Page: 6}, {Kind: api.Call, Page: -1},
		{Kind: api.Done, Copy: 1}, {Kind: api.Done, Txn: maxNum + 1}, {Kind: api.Done, Txn: -1}, {Kind: api.Done, Puts: all[:1]},
		{Kind: api.Fail}, {Kind: api.Fail, Copy: 1000}, {Kind: api.Fail, Copy: -1}, {Kind: api.Fail, Copy: 1, Own: 1}, {Kind: api.Fail, Copy: 1, Puts: all[:1]},
	} {
		checkRight(t, m, false)
	}
	for _, m := range samples() {
		checkRight(t, m, true)
	}
}

// P10.1 Right: each number of each kind at all edges, whether the kind has it or not.
func TestRightOfEachNumber(t *testing.T) {
	for kind, r := range rules {
		for _, n := range edges {
			m := ordinary(kind)
			m.Page = n
			checkRight(t, m, r.page.has(n))
			m = ordinary(kind)
			m.Obj = n
			checkRight(t, m, r.obj.has(n))
			m = ordinary(kind)
			m.Txn = n
			checkRight(t, m, r.txn.has(n))
			m = ordinary(kind)
			m.Copy = n
			checkRight(t, m, r.copies.has(n))
			m = ordinary(kind)
			m.Own = n
			checkRight(t, m, r.own.has(n))
		}
	}
}

// P10.1 Right: Write, which two kinds have, both ways.
func TestRightOfWrite(t *testing.T) {
	for kind := range allKinds {
		m := ordinary(kind)
		m.Write = false
		checkRight(t, m, true)
		m.Write = true
		checkRight(t, m, kind == api.Busy || kind == api.Call)
	}
}

// P10.1 Right: a Value of each object, be it minus zero or not a number: a Grant alone has any but 0.
func TestRightOfValues(t *testing.T) {
	for kind := range allKinds {
		for obj := range objs {
			for _, re := range floats {
				for _, im := range floats {
					m := ordinary(kind)
					m.Values[obj] = complex(re, im)
					checkRight(t, m, kind == api.Grant || isZero(m.Values[obj]))
				}
			}
		}
	}
}

// P10.1 Right: kinds that there are not, be all else right for one that there is, or zero.
func TestRightOfKinds(t *testing.T) {
	for _, kind := range edges {
		there := kind >= 0 && kind < allKinds
		for other := range allKinds {
			m := ordinary(other)
			m.Kind = kind
			checkRight(t, m, there && rightBeside(m))
		}
		checkRight(t, api.Msg{Kind: kind}, there && kind != api.Fail)
	}
}

// P10.1 Right: Puts of each kind: nil and empty ones are none, and a Commit alone has any.
func TestRightOfPutsOfKinds(t *testing.T) {
	for kind := range allKinds {
		for _, puts := range [][]api.Put{nil, {}, make([]api.Put, 0, 9)} {
			m := ordinary(kind)
			m.Puts = puts
			checkRight(t, m, true)
		}
		for _, puts := range [][]api.Put{{{}}, {put(0, 0, complex(minus, 0))}, firstPuts(2), firstPuts(mostPuts)} {
			m := ordinary(kind)
			m.Puts = puts
			checkRight(t, m, kind == api.Commit)
		}
	}
}

func commit(puts ...api.Put) api.Msg {
	return api.Msg{Kind: api.Commit, Txn: 9, Puts: puts}
}

// P10.1 Right: a Put's Page and Obj at all edges, alone, behind another and ahead of one, whatever its Value.
func TestRightOfAPut(t *testing.T) {
	for _, page := range edges {
		for _, obj := range edges {
			can := page >= 0 && page <= 5 && obj >= 0 && obj <= 3
			for _, f := range floats {
				checkRight(t, commit(put(page, obj, complex(f, -f))), can)
			}
			checkRight(t, commit(put(0, 0, 1), put(page, obj, 2)), can && page+obj > 0)
			checkRight(t, commit(put(page, obj, 1), put(5, 3, 2)), can && page+obj < 8)
		}
	}
}

// P10.1 Right: none, one, 24 and 25 Puts, each place left out of all, there twice, or ahead of its turn.
func TestRightOfManyPuts(t *testing.T) {
	for many := range mostPuts + 1 {
		checkRight(t, commit(firstPuts(many)...), true)
	}
	all := firstPuts(mostPuts)
	for k := range all {
		checkRight(t, commit(slices.Delete(firstPuts(mostPuts), k, k+1)...), true)
		checkRight(t, commit(slices.Insert(firstPuts(mostPuts), k, all[k])...), false)
		checkRight(t, commit(append(firstPuts(mostPuts), all[k])...), false)
		if k > 0 {
			checkRight(t, commit(all[k], all[k-1]), false)
			checkRight(t, commit(all[k-1], all[k]), true)
		}
		checkRight(t, commit(all[k], all[k]), false)
		checkRight(t, commit(all[k], put(all[k].Page, all[k].Obj, 99)), false)
	}
	checkRight(t, commit(firstPuts(25)...), false)
	checkRight(t, commit(append(firstPuts(mostPuts), put(6, 0, 0))...), false)
	checkRight(t, commit(make([]api.Put, 100000)...), false)
	checkRight(t, commit(put(0, 3, 0), put(1, 0, 0), put(4, 2, 0)), true)
	checkRight(t, commit(put(0, 1, 0), put(0, 2, 0), put(0, 1, 0)), false)
	checkRight(t, commit(put(1, 0, 0), put(0, 3, 0)), false)
}

// P10.1 Right: all parts beside each other, against what the tests work out.
func TestRightOfAllParts(t *testing.T) {
	puts := [][]api.Put{nil, firstPuts(1), {put(1, 1, 0), put(1, 0, 0)}, firstPuts(25)}
	values := [][objs]complex128{{}, {2: 1i}, {3: complex(minus, 0)}}
	numbers := func(do func(m api.Msg)) {
		for kind := -1; kind <= allKinds; kind++ {
			for _, page := range []int{-1, 0, 5, 6} {
				for _, obj := range []int{-1, 0, 3, 4} {
					for _, txn := range []int{-1, 0, maxNum, maxNum + 1} {
						for _, copies := range []int{-1, 0, 1, 15, 16, 999, 1000} {
							for _, own := range []int{-1, 0, 15, 16} {
								do(api.Msg{Kind: kind, Page: page, Obj: obj, Txn: txn, Copy: copies, Own: own})
							}
						}
					}
				}
			}
		}
	}
	numbers(func(m api.Msg) {
		for k := range 2 * len(puts) * len(values) {
			m.Write = k%2 == 1
			m.Puts = puts[k/2%len(puts)]
			m.Values = values[k/2/len(puts)]
			if msg.Right(m) != rightBeside(m) {
				t.Fatalf("Right of %s: %t", told(m), msg.Right(m))
			}
		}
	})
}

func checkSame(t *testing.T, a, b api.Msg, want bool) {
	t.Helper()
	if msg.Same(a, b) != want || msg.Same(b, a) != want {
		t.Errorf("Same of %s and %s: %t, %t", told(a), told(b), msg.Same(a, b), msg.Same(b, a))
	}
}

// P10.1 Same: each of many messages, and each other one.
func TestSame(t *testing.T) {
	all := append(samples(), api.Msg{Kind: -1}, api.Msg{Kind: 9}, api.Msg{Kind: 5, Write: true, Puts: firstPuts(30)})
	for _, a := range all {
		for _, b := range all {
			checkSame(t, a, b, told(a) == told(b))
		}
	}
}

// P10.1 Same: unlike in one number alone, also where neither can be.
func TestSameOfNumbers(t *testing.T) {
	set := []func(m *api.Msg, n int){
		func(m *api.Msg, n int) { m.Kind = n }, func(m *api.Msg, n int) { m.Page = n }, func(m *api.Msg, n int) { m.Obj = n },
		func(m *api.Msg, n int) { m.Txn = n }, func(m *api.Msg, n int) { m.Copy = n }, func(m *api.Msg, n int) { m.Own = n },
	}
	for kind := range allKinds {
		for _, one := range set {
			for _, a := range edges {
				for _, b := range edges {
					x, y := ordinary(kind), ordinary(kind)
					one(&x, a)
					one(&y, b)
					checkSame(t, x, y, a == b)
				}
			}
		}
		x, y := ordinary(kind), ordinary(kind)
		checkSame(t, x, y, true)
		y.Write = !y.Write
		checkSame(t, x, y, false)
	}
}

// P10.1 Same: nil and empty Puts are one; unlike in one Put, in how many there are, or in their order.
func TestSameOfPuts(t *testing.T) {
	for kind := range allKinds {
		with := func(puts ...api.Put) api.Msg {
			m := ordinary(kind)
			m.Puts = puts
			return m
		}
		checkSame(t, with(), with([]api.Put{}...), true)
		checkSame(t, with(nil...), with(make([]api.Put, 0, 5)...), true)
		checkSame(t, with(), with(api.Put{}), false)
		checkSame(t, with(firstPuts(6)...), with(firstPuts(6)...), true)
		checkSame(t, with(firstPuts(6)...), with(firstPuts(5)...), false)
		checkSame(t, with(firstPuts(6)...), with(firstPuts(6)[1:]...), false)
		checkSame(t, with(firstPuts(30)...), with(firstPuts(30)...), true)
		for k := range 6 {
			other := firstPuts(6)
			other[k].Page++
			checkSame(t, with(firstPuts(6)...), with(other...), false)
			other = firstPuts(6)
			other[k].Obj--
			checkSame(t, with(firstPuts(6)...), with(other...), false)
			other = firstPuts(6)
			other[k].Value += 1i
			checkSame(t, with(firstPuts(6)...), with(other...), false)
			other = firstPuts(6)
			slices.Reverse(other[k:])
			checkSame(t, with(firstPuts(6)...), with(other...), k == 5)
		}
	}
}

// P10.1 Same: Values and those of Puts as layer 1 has it: 0 and minus 0 are unlike, and all that is not a number is one.
func TestSameOfValues(t *testing.T) {
	same := func(a, b float64) bool {
		return a != a && b != b || math.Float64bits(a) == math.Float64bits(b)
	}
	for kind := range allKinds {
		for _, a := range floats {
			for _, b := range floats {
				for obj := range objs {
					x, y := ordinary(kind), ordinary(kind)
					x.Values[obj], y.Values[obj] = complex(a, 1), complex(b, 1)
					checkSame(t, x, y, same(a, b))
					x.Values[obj], y.Values[obj] = complex(1, a), complex(1, b)
					checkSame(t, x, y, same(a, b))
				}
				checkSame(t, commit(put(1, 2, complex(a, 1))), commit(put(1, 2, complex(b, 1))), same(a, b))
				checkSame(t, commit(put(1, 2, complex(1, a))), commit(put(1, 2, complex(1, b))), same(a, b))
			}
		}
	}
}

// P10.1 Copy: the same, also of what can't be.
func TestCopy(t *testing.T) {
	all := append(samples(), api.Msg{Kind: -7}, api.Msg{Kind: math.MaxInt, Page: math.MinInt, Obj: -1, Txn: maxNum + 1, Copy: 16, Own: -1, Write: true},
		api.Msg{Kind: 9, Write: true, Puts: firstPuts(30), Values: [objs]complex128{1, 2i, complex(otherNaN, minus), 4}},
		api.Msg{Puts: []api.Put{}}, api.Msg{Puts: make([]api.Put, 0, 7)}, api.Msg{Puts: []api.Put{put(math.MaxInt, -1, 1), put(-1, 9, 2)}})
	for _, n := range edges {
		all = append(all, api.Msg{Kind: n}, api.Msg{Page: n}, api.Msg{Obj: n}, api.Msg{Txn: n}, api.Msg{Copy: n}, api.Msg{Own: n})
	}
	for _, m := range all {
		got := msg.Copy(m)
		if told(got) != told(m) || !msg.Same(got, m) {
			t.Errorf("Copy of %s: %s", told(m), told(got))
		}
	}
}

// fillPuts writes over a list and all of its spare room.
func fillPuts(list []api.Put) {
	list = list[:cap(list)]
	for k := range list {
		list[k] = put(-77, -77, -77)
	}
}

// P10.1 Copy: its memory is its own, spare room too, both ways.
func TestCopyIsOwnMemory(t *testing.T) {
	for many := range mostPuts + 1 {
		room := firstPuts(30)
		m := api.Msg{Kind: api.Commit, Txn: 4, Puts: room[:many]}
		first, second := msg.Copy(m), msg.Copy(m)
		fillPuts(first.Puts)
		if told(commit(room...)) != told(commit(firstPuts(30)...)) {
			t.Errorf("behind a change of the copy of %d the room is %s", many, told(commit(room...)))
		}
		want := told(api.Msg{Kind: api.Commit, Txn: 4, Puts: firstPuts(many)})
		if told(second) != want {
			t.Errorf("behind a change of one copy the other is %s", told(second))
		}
		fillPuts(room)
		if told(second) != want {
			t.Errorf("behind a change of the message its copy is %s", told(second))
		}
	}
	m := ordinary(api.Grant)
	got := msg.Copy(m)
	got.Values[2] = 99
	if told(m) != told(ordinary(api.Grant)) {
		t.Errorf("behind a change of the copy the message is %s", told(m))
	}
}
