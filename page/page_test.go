package page_test

import (
	"bytes"
	"encoding/hex"
	"math"
	"testing"

	"cloakroom/api"
	"cloakroom/crc"
	"cloakroom/page"
)

const (
	bodySize = 67
	oneForm  = 0x7FF8000000000001
)

// rightLSNs and wrongLSNs hold LSNs that can be, and such as can't.
var (
	rightLSNs = []int{0, 1, 255, 256, 66051, 8388608, 16777214, 16777215}
	wrongLSNs = []int{-1, -2, -16777216, math.MinInt, math.MinInt + 1, 16777216, 16777217, 1 << 32, 1<<32 + 5, math.MaxInt}
)

// wrongObjs holds objects that no page has.
var wrongObjs = []int{-1, -2, -4, math.MinInt, math.MinInt + 1, 4, 5, 1 << 32, 1<<32 + 1, math.MaxInt}

// parts holds bits of parts, each in its one form.
var parts = []uint64{
	0,
	1 << 63, // -0
	1,
	0x3FF0000000000000, // 1
	0xC000000000000000, // -2
	0x0102030405060708,
	0x7FEFFFFFFFFFFFFF, // the greatest number
	0x7FF0000000000000, // infinity
	0xFFF0000000000000, // -infinity
	oneForm,
}

// otherForms holds bits of what is not a number, but not those in which it is written.
var otherForms = []uint64{
	0x7FF8000000000000,
	0x7FF8000000000002,
	0x7FF0000000000001,
	0x7FFFFFFFFFFFFFFF,
	0xFFF8000000000001,
	0xFFFFFFFFFFFFFFFF,
}

func number(re, im uint64) complex128 {
	return complex(math.Float64frombits(re), math.Float64frombits(im))
}

// ordinary is a page whose objects and parts are all other ones.
func ordinary(lsn int) api.Page {
	return api.Page{LSN: lsn, Objs: [4]complex128{complex(1, 2), complex(-2, 0.5), complex(7, -9), complex(1e300, -1e-300)}}
}

// pages holds right pages with all parts at all places, and all LSNs.
func pages() []api.Page {
	var list []api.Page
	for _, lsn := range rightLSNs {
		list = append(list, api.Page{LSN: lsn}, ordinary(lsn))
	}
	for i, bits := range parts {
		next := parts[(i+1)%len(parts)]
		for obj := range 4 {
			p := ordinary(i)
			p.Objs[obj] = number(bits, next)
			list = append(list, p)
		}
	}
	return list
}

// bitsOf is all that a page holds: its LSN, and each part's very bits.
func bitsOf(p api.Page) [9]uint64 {
	all := [9]uint64{uint64(p.LSN)}
	for i, c := range p.Objs {
		all[2*i+1], all[2*i+2] = math.Float64bits(real(c)), math.Float64bits(imag(c))
	}
	return all
}

// bodyOf writes a page's very bits out, so that what is not a number may be told in any form.
func bodyOf(p api.Page) []byte {
	all := bitsOf(p)
	list := []byte{byte(all[0] >> 16), byte(all[0] >> 8), byte(all[0])}
	for _, bits := range all[1:] {
		for shift := 56; shift >= 0; shift -= 8 {
			list = append(list, byte(bits>>shift))
		}
	}
	return list
}

func checkSame(t *testing.T, a, b api.Page, want bool) {
	t.Helper()
	if page.Same(a, b) != want || page.Same(b, a) != want {
		t.Errorf("Same of %x and %x isn't %t", bitsOf(a), bitsOf(b), want)
	}
}

func checkBytes(t *testing.T, p api.Page, want []byte) {
	t.Helper()
	if got, e := page.Bytes(p); e != api.OK || !bytes.Equal(got, want) {
		t.Errorf("Bytes of %x: %x, %d", bitsOf(p), got, e)
	}
}

func checkRead(t *testing.T, b []byte, want api.Page) {
	t.Helper()
	if got, e := page.Read(b); e != api.OK || bitsOf(got) != bitsOf(want) {
		t.Errorf("Read of %x: %x, %d", b, bitsOf(got), e)
	}
}

func checkNoPage(t *testing.T, b []byte) {
	t.Helper()
	if got, e := page.Read(b); e != api.ErrPage || bitsOf(got) != [9]uint64{} {
		t.Errorf("Read of %d bytes %x: %x, %d", len(b), b, bitsOf(got), e)
	}
}

// The section Errors and the limits.
func TestNumbers(t *testing.T) {
	if api.ErrPage != 41 || api.MaxNum != 16777215 || api.MaxObjs != 4 {
		t.Error(api.ErrPage, api.MaxNum, api.MaxObjs)
	}
}

// P4.1 Right: the LSN alone tells, whatever the objects are.
func TestRight(t *testing.T) {
	var spoilt api.Page
	for i := range spoilt.Objs {
		spoilt.Objs[i] = number(otherForms[i], parts[7])
	}
	for _, p := range []api.Page{{}, ordinary(0), spoilt} {
		for _, lsn := range rightLSNs {
			if p.LSN = lsn; !page.Right(p) {
				t.Errorf("a page with LSN %d isn't right", lsn)
			}
		}
		for _, lsn := range wrongLSNs {
			if p.LSN = lsn; page.Right(p) {
				t.Errorf("a page with LSN %d is right", lsn)
			}
		}
	}
}

// P4.1 Same: each page with itself, and pages that differ in the LSN alone.
func TestSameOfLSNs(t *testing.T) {
	all := append(append([]int{}, rightLSNs...), wrongLSNs...)
	for _, a := range all {
		for _, b := range all {
			checkSame(t, api.Page{LSN: a}, api.Page{LSN: b}, a == b)
			checkSame(t, ordinary(a), ordinary(b), a == b)
		}
	}
}

// P4.1 Same: pages that differ in one part of one object alone: zeros of either sign and infinities among them.
func TestSameOfObjects(t *testing.T) {
	for obj := range 4 {
		for i, a := range parts {
			for j, b := range parts {
				p, q := ordinary(5), ordinary(5)
				p.Objs[obj], q.Objs[obj] = number(a, parts[3]), number(b, parts[3])
				checkSame(t, p, q, i == j)
				p.Objs[obj], q.Objs[obj] = number(parts[0], a), number(parts[0], b)
				checkSame(t, p, q, i == j)
			}
		}
	}
}

// P4.1 Same: objects one by one: the same ones at other places make another page.
func TestSameOfPlaces(t *testing.T) {
	for i := range 4 {
		for j := range 4 {
			p, q := ordinary(5), ordinary(5)
			q.Objs[i], q.Objs[j] = q.Objs[j], q.Objs[i]
			checkSame(t, p, q, i == j)
		}
	}
}

// P4.1 Same: what is not a number is the same, whatever its bits are, and is no number.
func TestSameOfNotNumbers(t *testing.T) {
	for obj := range 4 {
		p, q := ordinary(5), ordinary(5)
		for _, bits := range otherForms {
			p.Objs[obj], q.Objs[obj] = number(bits, parts[4]), number(oneForm, parts[4])
			checkSame(t, p, q, true)
			p.Objs[obj], q.Objs[obj] = number(parts[4], bits), number(parts[4], oneForm)
			checkSame(t, p, q, true)
			checkSame(t, p, p, true)
			p.Objs[obj], q.Objs[obj] = number(bits, oneForm), number(bits, parts[7])
			checkSame(t, p, q, false)
		}
	}
}

// P4.1 Get: the object at its place, its very bits, be the page right or not.
func TestGet(t *testing.T) {
	for _, p := range append(pages(), ordinary(-1), ordinary(16777216)) {
		for obj, want := range p.Objs {
			if c, e := page.Get(p, obj); e != api.OK || bitsOf(api.Page{Objs: [4]complex128{c}}) != bitsOf(api.Page{Objs: [4]complex128{want}}) {
				t.Errorf("Get of object %d of %x: %v, %d", obj, bitsOf(p), c, e)
			}
		}
	}
}

// P4.1 Get: no such object.
func TestGetOfNone(t *testing.T) {
	for _, obj := range wrongObjs {
		c, e := page.Get(ordinary(3), obj)
		if e != api.ErrPage || bitsOf(api.Page{Objs: [4]complex128{c}}) != [9]uint64{} {
			t.Errorf("Get of object %d: %v, %d", obj, c, e)
		}
	}
}

// P4.1 Set: that object and the LSN are other ones, the other objects aren't, nor is the page that is handed in.
func TestSet(t *testing.T) {
	for _, before := range []int{0, 9, 16777215, -1, 16777216} {
		for _, lsn := range rightLSNs {
			for obj := range 4 {
				for _, bits := range parts {
					p, c := ordinary(before), number(bits, parts[1])
					want := ordinary(lsn)
					want.Objs[obj] = c
					got, e := page.Set(p, obj, c, lsn)
					if e != api.OK || bitsOf(got) != bitsOf(want) {
						t.Fatalf("Set of object %d to %v with LSN %d: %v, %d", obj, c, lsn, got, e)
					}
					if bitsOf(p) != bitsOf(ordinary(before)) {
						t.Fatalf("Set of object %d made %v of what was handed in", obj, p)
					}
				}
			}
		}
	}
}

// P4.1 Set: what is set is got.
func TestSetAndGet(t *testing.T) {
	var p api.Page
	for obj := range 4 {
		var e api.Errno
		if p, e = page.Set(p, obj, number(parts[obj], parts[obj+4]), obj+1); e != api.OK {
			t.Errorf("Set of object %d: %d", obj, e)
		}
	}
	for obj := range 4 {
		c, e := page.Get(p, obj)
		if e != api.OK || math.Float64bits(real(c)) != parts[obj] || math.Float64bits(imag(c)) != parts[obj+4] {
			t.Errorf("Get of object %d: %v, %d", obj, c, e)
		}
	}
	if p.LSN != 4 {
		t.Errorf("the last LSN is %d", p.LSN)
	}
}

// P4.1 Set: an object or an LSN that can't be, or both: the page as it is, its very bits.
func TestSetOfWhatCannotBe(t *testing.T) {
	check := func(p api.Page, obj, lsn int) {
		t.Helper()
		if got, e := page.Set(p, obj, complex(8, 8), lsn); e != api.ErrPage || bitsOf(got) != bitsOf(p) {
			t.Errorf("Set of object %d with LSN %d of %x: %x, %d", obj, lsn, bitsOf(p), bitsOf(got), e)
		}
	}
	odd := ordinary(6)
	odd.Objs[2] = number(otherForms[2], otherForms[4])
	for _, p := range []api.Page{{}, ordinary(6), odd, ordinary(-1), ordinary(math.MaxInt)} {
		for _, lsn := range wrongLSNs {
			for obj := range 4 {
				check(p, obj, lsn)
			}
		}
		for _, obj := range wrongObjs {
			for _, lsn := range append(append([]int{}, rightLSNs...), wrongLSNs...) {
				check(p, obj, lsn)
			}
		}
	}
}

// P4.2 Bytes: the chapter's example: a page of zeros with LSN 0 has 67 bytes 0, and a sum.
func TestBytesOfZeros(t *testing.T) {
	want := append(make([]byte, bodySize), 0x4B, 0xE4)
	checkBytes(t, api.Page{}, want)
	checkRead(t, want, api.Page{})
}

// P4.2 Bytes: bytes that another program has worked out.
func TestBytesOfKnownPage(t *testing.T) {
	p := api.Page{LSN: 66051, Objs: [4]complex128{
		complex(1, 2), complex(-2, 0.5), complex(math.Copysign(0, -1), 0), complex(math.Inf(1), math.Inf(-1))}}
	want, err := hex.DecodeString("010203" +
		"3ff00000000000004000000000000000" + "c0000000000000003fe0000000000000" +
		"80000000000000000000000000000000" + "7ff0000000000000fff0000000000000" + "c542")
	if err != nil {
		t.Fatal(err)
	}
	checkBytes(t, p, want)
	checkRead(t, want, p)
}

// P4.2: the LSN, the objects and the sum, 69 bytes; there and back.
func TestBytesAndRead(t *testing.T) {
	for _, p := range pages() {
		want := crc.Seal(bodyOf(p))
		if len(want) != 69 {
			t.Fatalf("%d bytes", len(want))
		}
		checkBytes(t, p, want)
		checkRead(t, want, p)
	}
}

// P4.2 Bytes: what is not a number is written in one form, whatever its bits are, so pages that are the same have the same bytes.
func TestBytesOfNotNumbers(t *testing.T) {
	for obj := range 4 {
		for _, bits := range otherForms {
			for _, other := range parts {
				p, q := ordinary(5), ordinary(5)
				p.Objs[obj], q.Objs[obj] = number(bits, other), number(oneForm, other)
				checkBytes(t, p, crc.Seal(bodyOf(q)))
				p.Objs[obj], q.Objs[obj] = number(other, bits), number(other, oneForm)
				checkBytes(t, p, crc.Seal(bodyOf(q)))
			}
		}
	}
}

// P4.2 Bytes: pages have the same bytes where they are the same, and nowhere else.
func TestBytesOfOtherPages(t *testing.T) {
	all := pages()
	for _, p := range all {
		for _, q := range all {
			a, _ := page.Bytes(p)
			b, _ := page.Bytes(q)
			if bytes.Equal(a, b) != page.Same(p, q) {
				t.Errorf("%x and %x: bytes %x and %x", bitsOf(p), bitsOf(q), a, b)
			}
		}
	}
}

// P4.2 Bytes: a page that isn't right has none.
func TestBytesOfNoRightPage(t *testing.T) {
	for _, lsn := range wrongLSNs {
		for _, p := range []api.Page{{LSN: lsn}, ordinary(lsn)} {
			if got, e := page.Bytes(p); e != api.ErrPage || len(got) != 0 {
				t.Errorf("Bytes of a page with LSN %d: %x, %d", lsn, got, e)
			}
		}
	}
}

// P4.2 Read: fewer bytes, none among them, and more.
func TestReadOfOtherSizes(t *testing.T) {
	checkNoPage(t, nil)
	checkNoPage(t, []byte{})
	checkNoPage(t, make([]byte, 0, 200))
	whole, _ := page.Bytes(ordinary(77))
	for size := range len(whole) {
		checkNoPage(t, whole[:size])
		checkNoPage(t, whole[size+1:])
	}
	for _, more := range []byte{0, 1, 255} {
		checkNoPage(t, append(bytes.Clone(whole), more))
		checkNoPage(t, append([]byte{more}, whole...))
	}
	checkNoPage(t, append(bytes.Clone(whole), whole...))
}

// P4.2 Read: a right sum behind fewer bytes, or more, than a page has.
func TestReadOfFramesOfOtherSizes(t *testing.T) {
	list := append(bodyOf(ordinary(77)), bodyOf(ordinary(78))...)
	for size := range len(list) {
		if size == bodySize {
			checkRead(t, crc.Seal(list[:size]), ordinary(77))
			continue
		}
		checkNoPage(t, crc.Seal(list[:size]))
		checkNoPage(t, crc.Seal(make([]byte, size)))
	}
	checkNoPage(t, crc.Seal(crc.Seal(bodyOf(ordinary(77)))))
	checkNoPage(t, crc.Seal(make([]byte, 100000)))
}

// P4.2 Read: 69 bytes with another sum, each of them, and with its bytes the other way round.
func TestReadOfOtherSums(t *testing.T) {
	whole, _ := page.Bytes(ordinary(77))
	for i := range 1 << 16 {
		b := append(bytes.Clone(whole[:bodySize]), byte(i), byte(i>>8))
		if bytes.Equal(b, whole) {
			checkRead(t, b, ordinary(77))
		} else {
			checkNoPage(t, b)
		}
	}
	checkNoPage(t, append(make([]byte, bodySize), 0xE4, 0x4B))
}

// P4.2 Read: one bit is another one, and the sum is as it was.
func TestReadOfTurnedBits(t *testing.T) {
	for _, p := range []api.Page{{}, ordinary(77), ordinary(16777215)} {
		whole, _ := page.Bytes(p)
		for bit := range 8 * len(whole) {
			checkNoPage(t, crc.Burst(whole, bit, 1))
		}
	}
}

// P4.2 Read: what is not a number in a form that Bytes does not write, in whichever part, behind a right LSN and with a right sum.
func TestReadOfOtherForms(t *testing.T) {
	for obj := range 4 {
		for _, bits := range otherForms {
			for _, other := range parts {
				p := ordinary(5)
				p.Objs[obj] = number(bits, other)
				checkNoPage(t, crc.Seal(bodyOf(p)))
				p.Objs[obj] = number(other, bits)
				checkNoPage(t, crc.Seal(bodyOf(p)))
			}
		}
	}
}

// fillAll writes over a list and all of its spare room.
func fillAll(list []byte) {
	list = list[:cap(list)]
	copy(list, bytes.Repeat([]byte{99}, len(list)))
}

// What is handed in is not changed, spare room included, be the answer an error or not.
func TestArgumentsAreNotChanged(t *testing.T) {
	whole, _ := page.Bytes(ordinary(77))
	room := append(bytes.Clone(whole), bytes.Repeat([]byte{44}, 80)...)
	before := bytes.Clone(room)
	for size := range 100 {
		page.Read(room[:size])
		if !bytes.Equal(room, before) {
			t.Fatalf("Read of %d bytes made %x of %x", size, room, before)
		}
	}
	p := ordinary(77)
	page.Set(p, 2, complex(4, 4), 1)
	if b, _ := page.Bytes(p); !bytes.Equal(b, whole) || bitsOf(p) != bitsOf(ordinary(77)) {
		t.Errorf("the page became %x, its bytes %x", bitsOf(p), b)
	}
}

// What is handed in is not kept, and answers are new memory: each stands when the others are written over.
func TestAnswersAreNewMemory(t *testing.T) {
	want := crc.Seal(bodyOf(ordinary(77)))
	first, _ := page.Bytes(ordinary(77))
	second, _ := page.Bytes(ordinary(77))
	read, _ := page.Read(first)
	fillAll(first)
	if bitsOf(read) != bitsOf(ordinary(77)) {
		t.Errorf("the page that was read became %x", bitsOf(read))
	}
	if !bytes.Equal(second, want) {
		t.Errorf("the second answer of Bytes became %x", second)
	}
	checkBytes(t, ordinary(77), want)
	checkRead(t, want, ordinary(77))
}

// answers is all that the package says of a page and two numbers.
type answers struct {
	right, same   bool
	got           [9]uint64
	set           [9]uint64
	getErr        api.Errno
	setErr        api.Errno
	written       string
	writtenErr    api.Errno
	read, readCut [9]uint64
	readErr       api.Errno
	readCutErr    api.Errno
}

func answersOf(p api.Page, obj, lsn int) answers {
	var a answers
	var got, set, read, cut api.Page
	a.right = page.Right(p)
	got.Objs[0], a.getErr = page.Get(p, obj)
	set, a.setErr = page.Set(p, obj, complex(6, 6), lsn)
	a.same = page.Same(p, set)
	b, e := page.Bytes(set)
	a.written, a.writtenErr = string(b), e
	read, a.readErr = page.Read(b)
	cut, a.readCutErr = page.Read(b[len(b)/2:])
	a.got, a.set, a.read, a.readCut = bitsOf(got), bitsOf(set), bitsOf(read), bitsOf(cut)
	return a
}

// P1 and P2: every call ends without a panic, and says the same again whatever was asked in between.
func TestAnswersHangOnArgumentsAlone(t *testing.T) {
	objs := append([]int{0, 1, 2, 3}, wrongObjs...)
	lsns := append(append([]int{}, rightLSNs...), wrongLSNs...)
	all := pages()
	for _, lsn := range wrongLSNs {
		all = append(all, ordinary(lsn))
	}
	each := func(do func(a answers)) {
		for _, p := range all {
			for _, obj := range objs {
				for _, lsn := range lsns {
					do(answersOf(p, obj, lsn))
				}
			}
		}
	}
	var first []answers
	each(func(a answers) { first = append(first, a) })
	asked := 0
	each(func(a answers) {
		if a != first[asked] {
			t.Errorf("other answers the second time: %v, not %v", a, first[asked])
		}
		asked++
	})
}
