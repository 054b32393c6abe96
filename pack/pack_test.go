package pack_test

import (
	"bytes"
	"math"
	"slices"
	"testing"

	"cloakroom/api"
	"cloakroom/pack"
)

const (
	most    = 1000
	oneForm = 0x7FF8000000000001
	sign    = 1 << 63
)

// forms holds numbers that can be, and their forms: the edges, each byte alone, and ordinary ones.
var forms = []struct {
	n    int
	form [3]byte
}{
	{0, [3]byte{0, 0, 0}},
	{1, [3]byte{0, 0, 1}},
	{2, [3]byte{0, 0, 2}},
	{127, [3]byte{0, 0, 127}},
	{128, [3]byte{0, 0, 128}},
	{255, [3]byte{0, 0, 255}},
	{256, [3]byte{0, 1, 0}},
	{258, [3]byte{0, 1, 2}},
	{32768, [3]byte{0, 128, 0}},
	{65535, [3]byte{0, 255, 255}},
	{65536, [3]byte{1, 0, 0}},
	{66051, [3]byte{1, 2, 3}},
	{8388608, [3]byte{128, 0, 0}},
	{api.MaxNum - 1, [3]byte{255, 255, 254}},
	{api.MaxNum, [3]byte{255, 255, 255}},
}

// noNumbers holds numbers that can't be.
var noNumbers = []int{-1, -2, -256, -16777216, math.MinInt, api.MaxNum + 1, api.MaxNum + 2, 1 << 24, 1 << 32, 1<<32 + 1, math.MaxInt}

// badMany holds counts that Get does not take, whatever the bytes are.
var badMany = []int{-1, -2, -1000, math.MinInt, math.MinInt / 3, most + 1, 5000, math.MaxInt, math.MaxInt/3 + 1, 1 << 62}

// parts holds bits of parts, each in its one form.
var parts = []uint64{
	0,
	sign,
	1,
	sign | 1,
	0x000FFFFFFFFFFFFF, // the greatest subnormal one
	0x0010000000000000, // the least normal one
	0x3FF0000000000000, // 1
	0xC000000000000000, // -2
	0x0102030405060708,
	0xF0DEBC9A78563412,
	0x7FEFFFFFFFFFFFFF, // the greatest number
	0xFFEFFFFFFFFFFFFF, // the lowest one
	0x7FF0000000000000, // infinity
	0xFFF0000000000000, // -infinity
	oneForm,
}

// noParts holds bits of what is not a number that are not its form.
var noParts = []uint64{
	0x7FF8000000000000,
	0x7FF8000000000002,
	0x7FF8000000000101,
	0x7FF0000000000001,
	0x7FF7FFFFFFFFFFFF,
	0x7FFFFFFFFFFFFFFF,
	0xFFF8000000000001,
	0xFFF8000000000000,
	0xFFF0000000000001,
	0xFFFFFFFFFFFFFFFF,
}

// behinds holds what may be behind the bytes that are read.
var behinds = [][]byte{nil, {0}, {7}, {1, 2}, {9, 8, 7}, {255, 255, 255, 255}, bytes.Repeat([]byte{0x7F, 0xF8}, 20)}

func number(re, im uint64) complex128 {
	return complex(math.Float64frombits(re), math.Float64frombits(im))
}

// partBytes is worked out byte by byte, so that it does not lean on what is tested.
func partBytes(bits uint64) []byte {
	var list []byte
	for shift := 56; shift >= 0; shift -= 8 {
		list = append(list, byte(bits>>shift))
	}
	return list
}

func valueBytes(re, im uint64) []byte {
	return append(partBytes(re), partBytes(im)...)
}

// allForms is all of forms as numbers and as bytes.
func allForms() ([]int, []byte) {
	var nums []int
	var list []byte
	for _, f := range forms {
		nums = append(nums, f.n)
		list = append(list, f.form[:]...)
	}
	return nums, list
}

// some is so many numbers, each other than the next, and their forms.
func some(many int) ([]int, []byte) {
	var nums []int
	var list []byte
	for i := range many {
		n := i * 16777 % (api.MaxNum + 1)
		nums = append(nums, n)
		list = append(list, byte(n/65536), byte(n/256%256), byte(n%256))
	}
	return nums, list
}

func checkNums(t *testing.T, nums []int, want []byte) {
	t.Helper()
	if got, e := pack.Nums(nums...); e != api.OK || !bytes.Equal(got, want) {
		t.Errorf("Nums of %v: %v, %d", nums, got, e)
	}
}

func checkGet(t *testing.T, b []byte, many int, nums []int, behind []byte) {
	t.Helper()
	got, left, e := pack.Get(b, many)
	if e != api.OK || !slices.Equal(got, nums) || !bytes.Equal(left, behind) {
		t.Errorf("Get of %d numbers from %v: %v, %v, %d", many, b, got, left, e)
	}
}

func checkNoGet(t *testing.T, b []byte, many int) {
	t.Helper()
	got, left, e := pack.Get(b, many)
	if e != api.ErrPack || len(got) != 0 || len(left) != 0 {
		t.Errorf("Get of %d numbers from %d bytes: %v, %v, %d", many, len(b), got, left, e)
	}
}

func checkNoTake(t *testing.T, b []byte) {
	t.Helper()
	c, left, e := pack.Take(b)
	if e != api.ErrPack || math.Float64bits(real(c)) != 0 || math.Float64bits(imag(c)) != 0 || len(left) != 0 {
		t.Errorf("Take of %x: %v, %v, %d", b, c, left, e)
	}
}

// P2.1 Nums: the chapter's example.
func TestNumsExample(t *testing.T) {
	checkNums(t, []int{1, 258}, []byte{0, 0, 1, 0, 1, 2})
	checkGet(t, []byte{0, 0, 1, 0, 1, 2}, 2, []int{1, 258}, nil)
}

// P2.1 Nums: three bytes for each number, the highest first, one form behind the other.
func TestNums(t *testing.T) {
	for _, f := range forms {
		checkNums(t, []int{f.n}, f.form[:])
		for _, g := range forms {
			checkNums(t, []int{f.n, g.n}, append(f.form[:], g.form[:]...))
		}
	}
	nums, list := allForms()
	checkNums(t, nums, list)
}

// P2.1 Nums: no numbers have no bytes, and there may be more of them than Get reads.
func TestNumsOfNoneAndOfMany(t *testing.T) {
	if got, e := pack.Nums(); e != api.OK || len(got) != 0 {
		t.Errorf("Nums of none: %v, %d", got, e)
	}
	checkNums(t, nil, nil)
	checkNums(t, []int{}, nil)
	for _, many := range []int{most, most + 1, 20000} {
		nums, list := some(many)
		checkNums(t, nums, list)
	}
}

// P2.1 Nums: one number that can't be, wherever it is, and there are no bytes.
func TestNumsThatCannotBe(t *testing.T) {
	for _, bad := range noNumbers {
		for _, l := range [][]int{{bad}, {bad, 1}, {5, bad}, {0, bad, api.MaxNum}, {bad, bad}} {
			if got, e := pack.Nums(l...); e != api.ErrPack || len(got) != 0 {
				t.Errorf("Nums of %v: %v, %d", l, got, e)
			}
		}
	}
}

// P2.1 Get: so many numbers, and what is behind them.
func TestGet(t *testing.T) {
	nums, list := allForms()
	for many := range len(nums) + 1 {
		checkGet(t, list, many, nums[:many], list[3*many:])
		for _, behind := range behinds {
			checkGet(t, append(bytes.Clone(list[:3*many]), behind...), many, nums[:many], behind)
		}
	}
}

// P2.1 Get: of no numbers, all bytes are behind.
func TestGetOfNone(t *testing.T) {
	for _, behind := range behinds {
		checkGet(t, behind, 0, nil, behind)
	}
	checkGet(t, []byte{}, 0, nil, nil)
}

// P2.1 Get: too few bytes, by one and by more.
func TestGetOfTooFewBytes(t *testing.T) {
	for _, many := range []int{1, 2, 3, 17, 999, most} {
		nums, list := some(many)
		checkGet(t, list, many, nums, nil)
		for _, missing := range []int{1, 2, 3, 3 * many} {
			checkNoGet(t, list[:3*many-missing], many)
		}
	}
	checkNoGet(t, nil, 1)
	checkNoGet(t, []byte{}, most)
}

// P2.1 Get: 1000 numbers are read, more or fewer than none are not, however many bytes there are.
func TestGetCounts(t *testing.T) {
	nums, list := some(6000)
	for _, many := range []int{0, 1, most - 1, most} {
		checkGet(t, list, many, nums[:many], list[3*many:])
	}
	for _, many := range badMany {
		checkNoGet(t, list, many)
		checkNoGet(t, nil, many)
	}
	checkNoGet(t, list[:3*(most+1)], most+1)
}

// P2.1: what Nums writes, Get reads.
func TestNumsAndGet(t *testing.T) {
	nums, _ := some(most)
	for many := range most + 1 {
		list, e := pack.Nums(nums[:many]...)
		if e != api.OK {
			t.Fatalf("Nums of %d numbers: %d", many, e)
		}
		checkGet(t, list, many, nums[:many], nil)
	}
}

// P2.2 Value: both parts' bits, the real part's first, the highest byte first.
func TestValue(t *testing.T) {
	want := []byte{0x3F, 0xF0, 0, 0, 0, 0, 0, 0, 0xC0, 0, 0, 0, 0, 0, 0, 0}
	if got := pack.Value(complex(1, -2)); !bytes.Equal(got, want) {
		t.Errorf("Value of 1-2i: %x", got)
	}
	for _, re := range parts {
		for _, im := range parts {
			if got := pack.Value(number(re, im)); !bytes.Equal(got, valueBytes(re, im)) {
				t.Errorf("Value of the parts %x %x: %x", re, im, got)
			}
		}
	}
}

// P2.2 Value: a part that is not a number is told by its one form, whatever its bits are.
func TestValueOfNotNumbers(t *testing.T) {
	for _, bits := range noParts {
		for _, other := range parts {
			if got := pack.Value(number(bits, other)); !bytes.Equal(got, valueBytes(oneForm, other)) {
				t.Errorf("Value of the parts %x %x: %x", bits, other, got)
			}
			if got := pack.Value(number(other, bits)); !bytes.Equal(got, valueBytes(other, oneForm)) {
				t.Errorf("Value of the parts %x %x: %x", other, bits, got)
			}
		}
	}
}

// P2.2 Take: the number with these very bits, and what is behind it.
func TestTake(t *testing.T) {
	for _, re := range parts {
		for _, im := range parts {
			for _, behind := range behinds {
				c, left, e := pack.Take(append(valueBytes(re, im), behind...))
				if e != api.OK || math.Float64bits(real(c)) != re || math.Float64bits(imag(c)) != im || !bytes.Equal(left, behind) {
					t.Errorf("Take of the parts %x %x with %v behind: %v, %v, %d", re, im, behind, c, left, e)
				}
			}
		}
	}
}

// P2.2 Take: too few bytes, by one and by more.
func TestTakeOfTooFewBytes(t *testing.T) {
	whole := valueBytes(0x3FF0000000000000, 0xC000000000000000)
	for size := range len(whole) {
		checkNoTake(t, whole[:size])
	}
	checkNoTake(t, nil)
	checkNoTake(t, make([]byte, 15, 64))
}

// P2.2 Take: a part that is not a number and has other bits than its form, whichever part it is.
func TestTakeOfNoForm(t *testing.T) {
	for _, bits := range noParts {
		for _, other := range parts {
			for _, behind := range behinds {
				checkNoTake(t, append(valueBytes(bits, other), behind...))
				checkNoTake(t, append(valueBytes(other, bits), behind...))
			}
		}
		checkNoTake(t, valueBytes(bits, bits))
	}
}

// P2.2: what Value writes, Take reads, one behind the other.
func TestValueAndTake(t *testing.T) {
	var list []byte
	for _, re := range parts {
		list = append(list, pack.Value(number(re, parts[len(parts)-1]))...)
	}
	for _, re := range parts {
		c, left, e := pack.Take(list)
		if e != api.OK || math.Float64bits(real(c)) != re {
			t.Fatalf("Take: %v, %d", c, e)
		}
		list = left
	}
	if len(list) != 0 {
		t.Errorf("behind the last one: %v", list)
	}
}

// roomy is the list with spare room behind it that is filled, so that a write there is seen.
func roomy[T any](list []T, fill T) ([]T, []T) {
	whole := slices.Clone(list)
	for range 40 {
		whole = append(whole, fill)
	}
	return whole[:len(list)], whole
}

// fill writes over a list and all of its spare room.
func fill[T any](list []T, value T) {
	list = list[:cap(list)]
	for i := range list {
		list[i] = value
	}
}

// What is handed in is not changed, spare room included, be the answer an error or not.
func TestArgumentsAreNotChanged(t *testing.T) {
	for _, l := range [][]int{{}, {1, 258}, {3, -1, 4}} {
		given, whole := roomy(l, 77)
		before := slices.Clone(whole)
		got, _ := pack.Nums(given...)
		fill(got, 9)
		if !slices.Equal(whole, before) {
			t.Errorf("Nums of %v changed it to %v", before, whole)
		}
	}
	bad := valueBytes(oneForm+1, 0)
	for _, b := range [][]byte{nil, {1, 2}, {0, 0, 1, 0, 1, 2}, valueBytes(1, 2), append(valueBytes(3, oneForm), 4, 5), bad} {
		given, whole := roomy(b, 77)
		before := bytes.Clone(whole)
		for many := range 4 {
			nums, left, _ := pack.Get(given, many)
			fill(nums, 9)
			fill(left, 9)
		}
		_, left, _ := pack.Take(given)
		fill(left, 9)
		if !bytes.Equal(whole, before) {
			t.Errorf("Get or Take of %v changed it to %v", before, whole)
		}
	}
}

// What is handed in is not kept: an answer stands when the argument is written over, and so does it beside others.
func TestAnswersAreNewMemory(t *testing.T) {
	given := append(valueBytes(1, 2), 3, 4, 5)
	nums, behindNums, _ := pack.Get(given, 2)
	_, behindValue, _ := pack.Take(given)
	fill(given, 99)
	if !slices.Equal(nums, []int{0, 0}) || !bytes.Equal(behindNums, append(valueBytes(1, 2)[6:], 3, 4, 5)) {
		t.Errorf("Get's answer became %v, %v", nums, behindNums)
	}
	if !bytes.Equal(behindValue, []byte{3, 4, 5}) {
		t.Errorf("Take's answer became %v", behindValue)
	}
	fill(behindNums, 98)
	if !bytes.Equal(behindValue, []byte{3, 4, 5}) {
		t.Errorf("Take's answer became %v beside Get's", behindValue)
	}
	l := []int{1, 258}
	packed, _ := pack.Nums(l...)
	fill(l, 99)
	again, _ := pack.Nums(1, 258)
	value := pack.Value(complex(1, 2))
	fill(again, 97)
	fill(value, 97)
	if !bytes.Equal(packed, []byte{0, 0, 1, 0, 1, 2}) || !bytes.Equal(pack.Value(complex(1, 2)), valueBytes(0x3FF0000000000000, 0x4000000000000000)) {
		t.Errorf("Nums' answer became %v, or Value's another", packed)
	}
}

// told is all that the package says of some bytes and a number, as one list.
func told(b []byte, many int) []int {
	var list []int
	add := func(bytes []byte) {
		list = append(list, len(bytes))
		for _, x := range bytes {
			list = append(list, int(x))
		}
	}
	nums, left, e := pack.Get(b, many)
	list = append(append(list, int(e), len(nums)), nums...)
	add(left)
	c, left, e := pack.Take(b)
	list = append(list, int(e))
	add(left)
	add(pack.Value(c))
	packed, e := pack.Nums(append([]int{many}, nums...)...)
	list = append(list, int(e))
	add(packed)
	return list
}

// P1 and P2: every call ends without a panic, and says the same again whatever was asked in between.
func TestAnswersHangOnArgumentsAlone(t *testing.T) {
	var given [][]byte
	_, list := some(most + 2)
	for _, size := range []int{0, 1, 2, 3, 4, 15, 16, 17, 48, 2999, 3000, 3001, 3006} {
		given = append(given, list[:size])
	}
	for _, bits := range append(slices.Clone(parts), noParts...) {
		given = append(given, valueBytes(bits, 0), valueBytes(sign, bits))
	}
	counts := append([]int{0, 1, 2, 5, 16, most - 1, most}, badMany...)
	var first [][]int
	for _, b := range given {
		for _, many := range counts {
			first = append(first, told(b, many))
		}
	}
	for i := len(first) - 1; i >= 0; i-- {
		b, many := given[i/len(counts)], counts[i%len(counts)]
		if !slices.Equal(told(b, many), first[i]) {
			t.Errorf("%d numbers of %x have other answers the second time", many, b)
		}
	}
}
