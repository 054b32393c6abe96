package wal_test

import (
	"bytes"
	"fmt"
	"math"
	"slices"
	"testing"

	"cloakroom/api"
	"cloakroom/crc"
	"cloakroom/wal"
)

const maxNum = 16777215

// edges holds numbers about all edges that a field of a Batch may have.
var edges = []int{math.MinInt, -1, 0, 1, 3, 4, maxNum, maxNum + 1, math.MaxInt}

// otherNaN is not a number, by other bits than those of its one form.
var otherNaN = math.Float64frombits(0xFFF8000000000123)

func commit(lsn, client, epoch, txn int, puts ...api.Put) api.Batch {
	return api.Batch{LSN: lsn, Client: client, Epoch: epoch, Txn: txn, Puts: puts}
}

func mark(lsn int) api.Batch {
	return api.Batch{LSN: lsn}
}

func put(page, obj int, value complex128) api.Put {
	return api.Put{Page: page, Obj: obj, Value: value}
}

// places is the Puts of the first places, so many, in their order.
func places(many int) []api.Put {
	var l []api.Put
	for k := range many {
		l = append(l, put(k/4, k%4, complex(float64(k), -float64(k))))
	}
	return l
}

// num is the three bytes of a number, as the tests make them.
func num(n int) []byte {
	return []byte{byte(n >> 16), byte(n >> 8), byte(n)}
}

func part(f float64) []byte {
	bits := math.Float64bits(f)
	if f != f {
		bits = 0x7FF8000000000001
	}
	var l []byte
	for k := 56; k >= 0; k -= 8 {
		l = append(l, byte(bits>>k))
	}
	return l
}

func value(c complex128) []byte {
	return append(part(real(c)), part(imag(c))...)
}

// head is the five numbers of a body, whatever they are.
func head(lsn, client, epoch, txn, many int) []byte {
	return slices.Concat(num(lsn), num(client), num(epoch), num(txn), num(many))
}

// body is what is sealed of a Batch, as the chapter tells it, be it right or not.
func body(b api.Batch) []byte {
	l := head(b.LSN, b.Client, b.Epoch, b.Txn, len(b.Puts))
	for _, p := range b.Puts {
		l = slices.Concat(l, num(p.Page), num(p.Obj), value(p.Value))
	}
	return l
}

// sealed is a body with its sum, and how many bytes these are ahead of it.
func sealed(body []byte) []byte {
	frame := crc.Seal(body)
	return append(num(len(frame)), frame...)
}

// form is a Batch's bytes, as the tests make them.
func form(b api.Batch) []byte {
	return sealed(body(b))
}

// row is the bytes of Batches one behind the other.
func row(batches ...api.Batch) []byte {
	var l []byte
	for _, b := range batches {
		l = append(l, form(b)...)
	}
	return l
}

// told is a list of Batches as text, with the bits of all parts.
func told(batches []api.Batch) string {
	text := ""
	for _, b := range batches {
		text += fmt.Sprintf("[%d %d %d %d:", b.LSN, b.Client, b.Epoch, b.Txn)
		for _, p := range b.Puts {
			text += fmt.Sprintf(" %d.%d=%x", p.Page, p.Obj, value(p.Value))
		}
		text += "]"
	}
	return text
}

func checkRight(t *testing.T, b api.Batch, want bool) {
	t.Helper()
	if got := wal.Right(b); got != want {
		t.Errorf("Right of %s: %t", told([]api.Batch{b}), got)
	}
}

// checkScan asks for what bytes begin with: these Batches, and as many bytes as they have.
func checkScan(t *testing.T, x []byte, want ...api.Batch) {
	t.Helper()
	got, size := wal.Scan(x)
	if told(got) != told(want) || size != len(row(want...)) {
		t.Errorf("Scan of %d bytes: %s, %d, not %s, %d", len(x), told(got), size, told(want), len(row(want...)))
	}
}

// The section Errors and the limits.
func TestNumbers(t *testing.T) {
	if api.OK != 0 || api.ErrWal != 71 || api.ErrFull != 61 {
		t.Error(api.OK, api.ErrWal, api.ErrFull)
	}
	if api.MaxNum != maxNum || api.MaxClients != 4 || api.MaxPuts != 24 || api.MaxPages != 6 || api.MaxObjs != 4 {
		t.Error(api.MaxNum, api.MaxClients, api.MaxPuts, api.MaxPages, api.MaxObjs)
	}
}

// P7.1 Right: each field of a COMMIT at its edges.
func TestRightOfACommit(t *testing.T) {
	checkRight(t, commit(1, 0, 1, 1), true)
	checkRight(t, commit(maxNum, 3, maxNum, maxNum, places(24)...), true)
	for _, puts := range [][]api.Put{nil, {}, {put(2, 1, 5)}, places(24)} {
		for _, n := range edges {
			num := n == 1 || n == 3 || n == 4 || n == maxNum
			checkRight(t, commit(n, 2, 7, 9, puts...), num)
			checkRight(t, commit(8, 2, n, 9, puts...), num)
			checkRight(t, commit(8, 2, 7, n, puts...), num)
			checkRight(t, commit(8, n, 7, 9, puts...), n == 0 || n == 1 || n == 3)
		}
		for client := range 4 {
			checkRight(t, commit(8, client, 7, 9, puts...), true)
		}
	}
}

// P7.1 Right: a MARK, and what has one thing that a MARK doesn't.
func TestRightOfAMark(t *testing.T) {
	for _, n := range edges {
		checkRight(t, mark(n), n >= 0 && n <= maxNum)
		checkRight(t, api.Batch{LSN: n, Puts: []api.Put{}}, n >= 0 && n <= maxNum)
		checkRight(t, api.Batch{LSN: n, Puts: make([]api.Put, 0, 9)}, n >= 0 && n <= maxNum)
		checkRight(t, api.Batch{LSN: n, Puts: make([]api.Put, 1)}, false)
		if n != 0 {
			checkRight(t, commit(5, n, 0, 0), false)
			checkRight(t, commit(5, 0, n, 0), false)
			checkRight(t, commit(5, 0, 0, n), false)
			checkRight(t, commit(0, 0, n, n), false)
		}
	}
}

// P7.1 Right: all fields at all edges, beside each other.
func TestRightOfAllFields(t *testing.T) {
	num := func(n int) bool { return n == 1 || n == 3 || n == 4 || n == maxNum }
	for _, lsn := range edges {
		for _, client := range edges {
			for _, epoch := range edges {
				for _, txn := range edges {
					isCommit := num(lsn) && num(epoch) && num(txn) && (client == 0 || client == 1 || client == 3)
					isMark := (lsn == 0 || num(lsn)) && client == 0 && epoch == 0 && txn == 0
					checkRight(t, commit(lsn, client, epoch, txn), isCommit || isMark)
					checkRight(t, commit(lsn, client, epoch, txn, put(0, 0, 0)), isCommit)
					checkRight(t, commit(lsn, client, epoch, txn, put(0, 0, 0), put(0, 0, 0)), false)
				}
			}
		}
	}
}

// P7.1 Right: a Put's Page and Obj at their edges, whatever its Value.
func TestRightOfAPut(t *testing.T) {
	list := []int{math.MinInt, -4, -1, 0, 1, 2, 3, 4, 5, 6, 7, 24, 1 << 32, math.MaxInt / 4, math.MaxInt/4 + 1, math.MaxInt}
	values := []complex128{0, complex(math.Copysign(0, -1), 0), complex(math.NaN(), otherNaN), complex(math.Inf(1), math.Inf(-1))}
	for _, page := range list {
		for _, obj := range list {
			for _, value := range values {
				can := page >= 0 && page <= 5 && obj >= 0 && obj <= 3
				checkRight(t, commit(1, 0, 1, 1, put(page, obj, value)), can)
				checkRight(t, commit(1, 0, 1, 1, put(0, 0, value), put(page, obj, value)), can && page+obj > 0)
				checkRight(t, commit(1, 0, 1, 1, put(page, obj, value), put(5, 3, value)), can && page+obj < 8)
			}
		}
	}
}

// P7.1 Right: none, one, 24 and 25 Puts, and each place left out of all, or there twice.
func TestRightOfManyPuts(t *testing.T) {
	for many := range 25 {
		checkRight(t, commit(1, 0, 1, 1, places(many)...), true)
	}
	all := places(24)
	for k := range all {
		checkRight(t, commit(1, 0, 1, 1, slices.Delete(places(24), k, k+1)...), true)
		checkRight(t, commit(1, 0, 1, 1, slices.Insert(places(24), k, all[k])...), false)
		checkRight(t, commit(1, 0, 1, 1, append(places(24), all[k])...), false)
		if k > 0 {
			twice := places(24)
			twice[k] = put(twice[k-1].Page, twice[k-1].Obj, 77)
			checkRight(t, commit(1, 0, 1, 1, twice...), false)
			turned := places(24)
			turned[k-1], turned[k] = turned[k], turned[k-1]
			checkRight(t, commit(1, 0, 1, 1, turned...), false)
		}
	}
	checkRight(t, commit(1, 0, 1, 1, append(places(24), put(6, 0, 0))...), false)
	checkRight(t, commit(1, 0, 1, 1, places(25)...), false)
	checkRight(t, commit(1, 0, 1, 1, make([]api.Put, 100000)...), false)
}

// P7.1 Right: the order of any two places: Page, and then Obj.
func TestRightOfTheOrder(t *testing.T) {
	for _, a := range places(24) {
		for _, b := range places(24) {
			ahead := a.Page < b.Page || a.Page == b.Page && a.Obj < b.Obj
			checkRight(t, commit(3, 1, 2, 4, a, b), ahead)
		}
	}
	checkRight(t, commit(3, 1, 2, 4, put(0, 1, 0), put(0, 2, 0), put(0, 1, 0)), false)
	checkRight(t, commit(3, 1, 2, 4, put(0, 3, 0), put(1, 0, 0), put(4, 2, 0)), true)
}

func checkSame(t *testing.T, a, b []api.Batch, want bool) {
	t.Helper()
	if wal.Same(a, b) != want || wal.Same(b, a) != want {
		t.Errorf("Same of %s and %s: %t, %t", told(a), told(b), wal.Same(a, b), wal.Same(b, a))
	}
}

// P7.1 Same: nil and empty are one; lists of unlike lengths, and in another order, are not the same.
func TestSame(t *testing.T) {
	a, b := commit(1, 0, 1, 1, places(3)...), commit(2, 1, 4, 9)
	checkSame(t, nil, nil, true)
	checkSame(t, nil, []api.Batch{}, true)
	checkSame(t, nil, []api.Batch{a}, false)
	checkSame(t, nil, []api.Batch{{}}, false)
	checkSame(t, []api.Batch{a, b}, []api.Batch{commit(1, 0, 1, 1, places(3)...), b}, true)
	checkSame(t, []api.Batch{a, b}, []api.Batch{a}, false)
	checkSame(t, []api.Batch{a, b}, []api.Batch{b}, false)
	checkSame(t, []api.Batch{a, b}, []api.Batch{b, a}, false)
	checkSame(t, []api.Batch{a, b, a}, []api.Batch{a, b}, false)
	none := b
	none.Puts = []api.Put{}
	checkSame(t, []api.Batch{a, b}, []api.Batch{a, none}, true)
	none.Puts = make([]api.Put, 0, 5)
	checkSame(t, []api.Batch{b}, []api.Batch{none}, true)
}

// P7.1 Same: unlike in one field, also where neither can be.
func TestSameOfFields(t *testing.T) {
	for _, a := range edges {
		for _, b := range edges {
			for _, puts := range [][]api.Put{nil, places(2)} {
				checkSame(t, []api.Batch{commit(a, 1, 2, 3, puts...)}, []api.Batch{commit(b, 1, 2, 3, puts...)}, a == b)
				checkSame(t, []api.Batch{commit(9, a, 2, 3, puts...)}, []api.Batch{commit(9, b, 2, 3, puts...)}, a == b)
				checkSame(t, []api.Batch{commit(9, 1, a, 3, puts...)}, []api.Batch{commit(9, 1, b, 3, puts...)}, a == b)
				checkSame(t, []api.Batch{commit(9, 1, 2, a, puts...)}, []api.Batch{commit(9, 1, 2, b, puts...)}, a == b)
				checkSame(t, []api.Batch{mark(a), mark(4)}, []api.Batch{mark(b), mark(4)}, a == b)
				checkSame(t, []api.Batch{mark(4), mark(a)}, []api.Batch{mark(4), mark(b)}, a == b)
			}
			checkSame(t, []api.Batch{commit(9, 1, 2, 3, put(a, 1, 0))}, []api.Batch{commit(9, 1, 2, 3, put(b, 1, 0))}, a == b)
			checkSame(t, []api.Batch{commit(9, 1, 2, 3, put(1, a, 0))}, []api.Batch{commit(9, 1, 2, 3, put(1, b, 0))}, a == b)
		}
	}
}

// P7.1 Same: unlike in one Put, in how many there are, or in their order.
func TestSameOfPuts(t *testing.T) {
	list := func(puts []api.Put) []api.Batch { return []api.Batch{commit(9, 1, 2, 3, puts...)} }
	all := list(places(6))
	checkSame(t, all, list(places(6)), true)
	checkSame(t, all, list(places(5)), false)
	checkSame(t, all, list(places(7)), false)
	checkSame(t, all, list(places(6)[1:]), false)
	for k := range 6 {
		other := places(6)
		other[k].Page++
		checkSame(t, all, list(other), false)
		other = places(6)
		other[k].Obj--
		checkSame(t, all, list(other), false)
		other = places(6)
		other[k].Value += 1i
		checkSame(t, all, list(other), false)
		other = places(6)
		other[k].Value += 1
		checkSame(t, all, list(other), false)
		other = places(6)
		slices.Reverse(other[k:])
		checkSame(t, all, list(other), k == 5)
	}
}

// P7.1 Same: Values as layer 1 has it: 0 and -0 are unlike, and all that is not a number is one.
func TestSameOfValues(t *testing.T) {
	minus := math.Copysign(0, -1)
	parts := []float64{0, minus, 1, -1, math.Inf(1), math.Inf(-1), math.NaN(), otherNaN, math.SmallestNonzeroFloat64}
	for i, a := range parts {
		for j, b := range parts {
			want := i == j || a != a && b != b
			for _, c := range parts {
				checkSame(t, []api.Batch{commit(1, 1, 1, 1, put(0, 0, complex(a, c)))}, []api.Batch{commit(1, 1, 1, 1, put(0, 0, complex(b, c)))}, want)
				checkSame(t, []api.Batch{commit(1, 1, 1, 1, put(0, 0, complex(c, a)))}, []api.Batch{commit(1, 1, 1, 1, put(0, 0, complex(c, b)))}, want)
			}
		}
	}
}

// P7.1 Bytes: two rows of bytes that are written out, the sums among them.
func TestBytesWrittenOut(t *testing.T) {
	b := commit(258, 3, 65536, 2, put(4, 1, complex(1, math.NaN())))
	frame := []byte{0, 1, 2, 0, 0, 3, 1, 0, 0, 0, 0, 2, 0, 0, 1, 0, 0, 4, 0, 0, 1,
		0x3F, 0xF0, 0, 0, 0, 0, 0, 0, 0x7F, 0xF8, 0, 0, 0, 0, 0, 1}
	checkBytes(t, b, append([]byte{0, 0, 39}, withSum(frame)...))
	frame = []byte{0, 0, 7, 0, 0, 0, 0, 0, 0, 0, 0, 0, 0, 0, 0}
	checkBytes(t, mark(7), append([]byte{0, 0, 17}, withSum(frame)...))
}

// withSum is bytes with their sum, worked out bit by bit as chapter 3 tells it.
func withSum(b []byte) []byte {
	sum := uint16(0xFFFF)
	for k := range 8 * len(b) {
		bit := uint16(b[k/8]>>(k%8)) & 1
		carry := sum&1 ^ bit
		sum = sum>>1 ^ carry*0x8408
	}
	return append(bytes.Clone(b), byte(^sum), byte(^sum>>8))
}

func checkBytes(t *testing.T, b api.Batch, want []byte) {
	t.Helper()
	if got, e := wal.Bytes(b); e != api.OK || !bytes.Equal(got, want) {
		t.Errorf("Bytes of %s: %x, %d, not %x", told([]api.Batch{b}), got, e, want)
	}
}

// P7.1 Bytes: of all kinds that can be, how many they are, and that Scan finds the Batch again.
func TestBytes(t *testing.T) {
	for many := range 25 {
		for _, n := range []int{1, 2, 255, 256, 65535, 65536, maxNum} {
			b := commit(n, many%4, maxNum+1-n, n, places(many)...)
			checkBytes(t, b, form(b))
			if got, _ := wal.Bytes(b); len(got) != 20+22*many {
				t.Errorf("%d Puts have %d bytes", many, len(got))
			}
			checkScan(t, form(b), b)
		}
	}
	for _, n := range []int{0, 1, 256, maxNum} {
		checkBytes(t, mark(n), form(mark(n)))
		checkBytes(t, api.Batch{LSN: n, Puts: []api.Put{}}, form(mark(n)))
		checkScan(t, form(mark(n)), mark(n))
	}
}

// P7.1 Bytes: Values of all kinds, what is not a number in one form.
func TestBytesOfValues(t *testing.T) {
	parts := []float64{0, math.Copysign(0, -1), 1, -2.5, math.Pi, math.Inf(1), math.Inf(-1), math.NaN(), otherNaN, math.MaxFloat64, math.SmallestNonzeroFloat64}
	for _, re := range parts {
		for _, im := range parts {
			b := commit(1, 0, 1, 1, put(0, 3, complex(re, im)), put(5, 0, complex(im, re)))
			checkBytes(t, b, form(b))
			checkScan(t, form(b), b)
		}
	}
}

// P7.1 Bytes: ErrWal and none of what isn't RIGHT.
func TestBytesOfWhatCannotBe(t *testing.T) {
	wrong := []api.Batch{
		commit(0, 0, 1, 1), commit(maxNum+1, 0, 1, 1), commit(1, 4, 1, 1), commit(1, -1, 1, 1), commit(1, 0, 0, 1), commit(1, 0, 1, 0),
		commit(1, 0, maxNum+1, 1), commit(1, 0, 1, maxNum+1), commit(1, 1, 0, 0), mark(-1), mark(maxNum + 1), mark(math.MinInt),
		commit(1, 0, 0, 0, put(0, 0, 0)), commit(1, 0, 1, 1, put(6, 0, 0)), commit(1, 0, 1, 1, put(0, 4, 0)), commit(1, 0, 1, 1, put(-1, 0, 0)),
		commit(1, 0, 1, 1, put(0, 1, 0), put(0, 0, 0)), commit(1, 0, 1, 1, put(1, 1, 0), put(1, 1, 0)), commit(1, 0, 1, 1, places(25)...),
		commit(math.MaxInt, math.MaxInt, math.MaxInt, math.MaxInt, put(math.MaxInt, math.MaxInt, 0)),
	}
	for _, b := range wrong {
		checkRight(t, b, false)
		if got, e := wal.Bytes(b); e != api.ErrWal || len(got) != 0 {
			t.Errorf("Bytes of %s: %x, %d", told([]api.Batch{b}), got, e)
		}
	}
}

// some is a row of Batches that follow on, of all kinds.
func some() []api.Batch {
	return []api.Batch{
		mark(6), commit(7, 0, 1, 1), commit(8, 3, maxNum, 2, places(24)...), mark(8), mark(8),
		commit(9, 1, 5, maxNum, put(0, 2, complex(math.NaN(), 1)), put(5, 3, -1i)), commit(10, 2, 1, 1, put(3, 0, 0)),
	}
}

// P7.1 Scan: nothing; and some Batches, from each one up to each other one.
func TestScan(t *testing.T) {
	checkScan(t, nil)
	checkScan(t, []byte{})
	all := some()
	for from := range all {
		for to := from; to <= len(all); to++ {
			checkScan(t, row(all[from:to]...), all[from:to]...)
		}
	}
}

// P7.1 Scan: cut off at every place: those that are whole.
func TestScanOfWhatIsCutOff(t *testing.T) {
	all := some()
	x := row(all...)
	whole := 0
	for n := range len(x) + 1 {
		for whole < len(all) && len(row(all[:whole+1]...)) <= n {
			whole++
		}
		checkScan(t, x[:n], all[:whole]...)
		checkScan(t, x[:n:n], all[:whole]...)
	}
}

// P7.1 Scan: other bytes behind them are none of theirs.
func TestScanWithBytesBehind(t *testing.T) {
	all := some()
	behind := [][]byte{{0}, {0, 0}, {0, 0, 0}, {0, 0, 1, 0}, {0, 0, 2, 0, 0}, {255, 255, 255}, []byte("other bytes, more than a MARK has"), make([]byte, 1000),
		form(mark(10))[1:], form(commit(11, 0, 1, 1))[3:], bytes.Repeat([]byte{0xFF}, 600)}
	for _, b := range behind {
		checkScan(t, b)
		checkScan(t, append(row(all...), b...), all...)
		checkScan(t, slices.Concat(row(all[:3]...), b, row(all[3:]...)), all[:3]...)
	}
}

// P7.1 Scan: any one bit turned: those ahead of it are found, and no more.
func TestScanWithABitTurned(t *testing.T) {
	all := some()
	x := row(all...)
	for k := range 8 * len(x) {
		whole := 0
		for len(row(all[:whole+1]...)) <= k/8 {
			whole++
		}
		turned := bytes.Clone(x)
		turned[k/8] ^= 1 << (k % 8)
		checkScan(t, turned, all[:whole]...)
	}
}

// P7.1 Scan: a count of bytes that isn't theirs, be there so many or not.
func TestScanWithAnotherCountOfBytes(t *testing.T) {
	for _, b := range []api.Batch{mark(3), commit(4, 0, 1, 1), commit(4, 0, 1, 1, places(2)...)} {
		right := form(b)
		size := len(right) - 3
		for _, count := range []int{0, 1, 2, 3, 16, size - 1, size + 1, size + 2, size + 20, 255, 256, 65536, maxNum} {
			if count == size {
				continue
			}
			wrong := append(num(count), right[3:]...)
			checkScan(t, wrong)
			checkScan(t, append(wrong, make([]byte, 70000)...))
			checkScan(t, slices.Concat(row(mark(3)), wrong, right), mark(3))
		}
	}
}

// P7.1 Scan: a frame of very many bytes whose sum is right is no Batch's, and it ends at once.
func TestScanOfAGreatFrame(t *testing.T) {
	many := (maxNum - 17) / 22
	for _, count := range []int{24, many} {
		x := sealed(append(head(1, 0, 1, 1, count), make([]byte, 22*many)...))
		checkScan(t, slices.Concat(row(mark(0)), x, row(mark(0))), mark(0))
	}
}

// P7.1 Scan: the sum is right, but these are the Bytes of no RIGHT Batch.
func TestScanOfWhatCannotBe(t *testing.T) {
	otherForm := slices.Concat(head(5, 0, 1, 1, 1), num(0), num(0), []byte{0x7F, 0xF8, 0, 0, 0, 0, 0, 2}, part(1))
	quietForm := slices.Concat(head(5, 0, 1, 1, 1), num(0), num(0), part(1), []byte{0xFF, 0xF8, 0, 0, 0, 0, 0, 1})
	three := body(commit(5, 0, 1, 1, places(3)...))
	wrong := [][]byte{
		nil, {0}, make([]byte, 14), make([]byte, 16), make([]byte, 15+22),
		head(0, 0, 1, 1, 0), head(5, 4, 1, 1, 0), head(5, 0, 0, 1, 0), head(5, 0, 1, 0, 0), head(5, 1, 0, 0, 0), head(5, maxNum, 1, 1, 0),
		head(5, 0, 1, 1, 1), head(5, 0, 1, 1, 24), head(5, 0, 1, 1, 25), head(5, 0, 1, 1, maxNum), head(5, 0, 0, 0, 1), head(5, 0, 0, 0, maxNum),
		body(commit(5, 0, 0, 0, put(0, 0, 0))), body(commit(5, 0, 1, 1, put(6, 0, 0))), body(commit(5, 0, 1, 1, put(0, 4, 0))),
		body(commit(5, 0, 1, 1, put(maxNum, 0, 0))), body(commit(5, 0, 1, 1, put(0, maxNum, 0))),
		body(commit(5, 0, 1, 1, put(0, 1, 0), put(0, 0, 0))), body(commit(5, 0, 1, 1, put(2, 2, 0), put(2, 2, 0))),
		body(commit(5, 0, 1, 1, append(places(24), put(5, 3, 0))...)), body(commit(5, 0, 1, 1, places(25)...)),
		otherForm, quietForm, append(head(5, 0, 1, 1, 2), three[15:]...), append(head(5, 0, 1, 1, 4), three[15:]...), append(head(5, 0, 1, 1, 0), three[15:]...),
		append(head(5, 0, 0, 0, 0), 0), append(bytes.Clone(three), 0), three[:len(three)-1], three[:len(three)-16], three[:len(three)-17], three[:len(three)-22],
	}
	for k, body := range wrong {
		x := sealed(body)
		if found, n := wal.Scan(x); len(found) != 0 || n != 0 {
			t.Errorf("of body %d: %s, %d", k, told(found), n)
		}
		checkScan(t, slices.Concat(row(mark(4)), x, row(mark(4))), mark(4))
		checkScan(t, slices.Concat(row(mark(5)), x), mark(5))
	}
	checkScan(t, sealed(three), commit(5, 0, 1, 1, places(3)...))
}

// P7.1 Scan: which LSNs follow on which: one more for a COMMIT, the same for a MARK; the first one may have any.
func TestScanOfLSNs(t *testing.T) {
	list := []int{0, 1, 2, 3, 4, 5, 255, 256, 257, maxNum - 2, maxNum - 1, maxNum}
	for _, a := range list {
		var firsts []api.Batch
		firsts = append(firsts, mark(a))
		if a > 0 {
			firsts = append(firsts, commit(a, 1, 2, 3, places(2)...))
		}
		for _, first := range firsts {
			checkScan(t, form(first), first)
			for _, b := range list {
				second := mark(b)
				if b == a {
					checkScan(t, row(first, second), first, second)
				} else {
					checkScan(t, row(first, second, first), first)
				}
				second = commit(b, 0, 1, 1, places(1)...)
				if b == a+1 {
					checkScan(t, row(first, second), first, second)
				} else {
					checkScan(t, row(first, second, second), first)
				}
			}
		}
	}
}

// P7.1 Scan: what follows on the one ahead, not on the first one; and none is found behind one that doesn't follow.
func TestScanOfLongerRows(t *testing.T) {
	c := func(lsn int) api.Batch { return commit(lsn, 0, 1, 1) }
	checkScan(t, row(c(3), c(4), c(4), c(5)), c(3), c(4))
	checkScan(t, row(c(3), c(4), c(6), c(5)), c(3), c(4))
	checkScan(t, row(c(3), c(4), c(3)), c(3), c(4))
	checkScan(t, row(c(3), c(4), mark(3), mark(4)), c(3), c(4))
	checkScan(t, row(c(3), c(4), mark(5), c(5)), c(3), c(4))
	checkScan(t, row(c(3), mark(3), c(3), c(4)), c(3), mark(3))
	checkScan(t, row(c(3), mark(3), c(4), mark(4), mark(4), c(5)), c(3), mark(3), c(4), mark(4), mark(4), c(5))
	checkScan(t, row(mark(0), c(1), c(2)), mark(0), c(1), c(2))
	checkScan(t, row(mark(0), mark(0), mark(1), c(1)), mark(0), mark(0))
	checkScan(t, row(c(maxNum-1), c(maxNum), mark(maxNum), c(1)), c(maxNum-1), c(maxNum), mark(maxNum))
}

// P7.1 Scan: of many, each found once, and in time that grows as they do.
func TestScanOfVeryMany(t *testing.T) {
	var all []api.Batch
	for k := range 20000 {
		all = append(all, commit(k+1, k%4, 1, 1, places(k%3)...))
	}
	x := make([]byte, 0, 1<<21)
	for _, b := range all {
		x = append(x, form(b)...)
	}
	got, size := wal.Scan(x)
	if !wal.Same(got, all) || size != len(x) {
		t.Errorf("%d of %d, %d bytes of %d", len(got), len(all), size, len(x))
	}
}

// batchBeside is the Batch whose bytes, as the tests make them, stand at the beginning: read without any look at what it says, and then made again.
func batchBeside(x []byte) (api.Batch, int, bool) {
	at := func(k int) int { return int(x[k])<<16 | int(x[k+1])<<8 | int(x[k+2]) }
	bits := func(k int) float64 {
		var n uint64
		for _, b := range x[k : k+8] {
			n = n<<8 | uint64(b)
		}
		return math.Float64frombits(n)
	}
	if len(x) < 20 {
		return api.Batch{}, 0, false
	}
	b := commit(at(3), at(6), at(9), at(12))
	for k := 18; k+22 <= len(x) && len(b.Puts) < at(15); k += 22 {
		b.Puts = append(b.Puts, put(at(k), at(k+3), complex(bits(k+6), bits(k+14))))
	}
	isMark := b.Client == 0 && b.Epoch == 0 && b.Txn == 0 && len(b.Puts) == 0
	isCommit := b.LSN > 0 && b.Client < 4 && b.Epoch > 0 && b.Txn > 0
	for k, p := range b.Puts {
		ahead := k == 0 || b.Puts[k-1].Page < p.Page || b.Puts[k-1].Page == p.Page && b.Puts[k-1].Obj < p.Obj
		isCommit = isCommit && ahead && p.Page < 6 && p.Obj < 4
	}
	made := form(b)
	return b, len(made), (isMark || isCommit) && bytes.HasPrefix(x, made)
}

// scanBeside is Scan as the chapter tells it.
func scanBeside(x []byte) ([]api.Batch, int) {
	var found []api.Batch
	read := 0
	for {
		b, size, there := batchBeside(x[read:])
		if !there {
			return found, read
		}
		if len(found) > 0 {
			want := found[len(found)-1].LSN
			if b.Txn > 0 {
				want++
			}
			if b.LSN != want {
				return found, read
			}
		}
		found = append(found, b)
		read += size
	}
}

// noise is a row of numbers that hangs on where it begins alone.
type noise uint64

func (n *noise) below(many int) int {
	*n ^= *n << 13
	*n ^= *n >> 7
	*n ^= *n << 17
	return int(uint64(*n) % uint64(many))
}

// anyBatch is a Batch that mostly can be, and mostly follows.
func anyBatch(n *noise, lsn int) api.Batch {
	b := commit(lsn, n.below(4), 1+n.below(9), 1+n.below(9))
	for _, p := range places(24) {
		if n.below(12) == 0 {
			b.Puts = append(b.Puts, p)
		}
	}
	switch n.below(12) {
	case 0, 1, 2:
		return mark(lsn - 1)
	case 3:
		b.LSN = n.below(9)
	case 4:
		b.Client = n.below(6)
	case 5:
		b.Epoch, b.Txn = n.below(2), n.below(2)
	case 6:
		b.Puts = append(b.Puts, put(n.below(7), n.below(5), 3))
	}
	return b
}

// P7.1 Scan: bytes of all kinds, with all that may be wrong with them, against what the tests work out.
func TestScanOfAllKinds(t *testing.T) {
	n := noise(88172645463325252)
	for range 20000 {
		lsn := 1 + n.below(5)
		var x []byte
		for range n.below(6) {
			b := anyBatch(&n, lsn)
			if b.Txn > 0 {
				lsn++
			}
			x = append(x, form(b)...)
		}
		switch n.below(4) {
		case 0:
			x = x[:n.below(len(x)+1)]
		case 1:
			if len(x) > 0 {
				x[n.below(len(x))] ^= byte(1 << n.below(8))
			}
		}
		want, many := scanBeside(x)
		got, size := wal.Scan(x)
		if told(got) != told(want) || size != many {
			t.Fatalf("Scan of %x: %s, %d, not %s, %d", x, told(got), size, told(want), many)
		}
	}
}
