package cnum_test

import (
	"math"
	"testing"

	"cloakroom/cnum"
)

const (
	oneForm = 0x7FF8000000000001
	sign    = 1 << 63
)

// ordered holds the bits of parts, each ahead of the next in Less's order; of what is not a number only the one form.
var ordered = []uint64{
	0xFFF0000000000000, // -infinity
	0xFFEFFFFFFFFFFFFF, // the lowest number
	0xC000000000000000, // -2
	0xBFF0000000000001, // a little below -1
	0xBFF0000000000000, // -1
	0x8010000000000000, // the greatest negative normal number
	0x800FFFFFFFFFFFFF, // the lowest negative subnormal one
	0x8000000000000001, // the greatest negative number
	0x8000000000000000, // -0
	0x0000000000000000, // 0
	0x0000000000000001, // the least positive number
	0x000FFFFFFFFFFFFF, // the greatest subnormal one
	0x0010000000000000, // the least normal one
	0x3FF0000000000000, // 1
	0x3FF0000000000001, // a little above 1
	0x4000000000000000, // 2
	0x7FEFFFFFFFFFFFFF, // the greatest number
	0x7FF0000000000000, // infinity
	oneForm,
}

// notNumbers holds bits of parts that are not a number, quiet ones and signalling ones, with a sign and without.
var notNumbers = []uint64{
	oneForm,
	0x7FF8000000000000,
	0x7FF0000000000001,
	0x7FF7FFFFFFFFFFFF,
	0x7FFFFFFFFFFFFFFF,
	0x7FF8000000000123,
	0xFFF8000000000000,
	0xFFF8000000000001,
	0xFFF0000000000001,
	0xFFFFFFFFFFFFFFFF,
}

func isNotNumber(bits uint64) bool {
	return bits&0x7FF0000000000000 == 0x7FF0000000000000 && bits&0x000FFFFFFFFFFFFF != 0
}

func isInfinite(bits uint64) bool {
	return bits&^uint64(sign) == 0x7FF0000000000000
}

// formOf is worked out from the bits alone, so that it does not lean on what is tested.
func formOf(bits uint64) uint64 {
	if isNotNumber(bits) {
		return oneForm
	}
	return bits
}

// allParts are the parts of the tests: each edge, and some bits from all over.
func allParts() []uint64 {
	all := append([]uint64{}, ordered...)
	all = append(all, notNumbers...)
	x := uint64(88172645463325252)
	for range 40 {
		x ^= x << 13
		x ^= x >> 7
		x ^= x << 17
		all = append(all, x)
	}
	return all
}

func number(re, im uint64) complex128 {
	return complex(math.Float64frombits(re), math.Float64frombits(im))
}

// eachNumber goes through all numbers that can be made of allParts.
func eachNumber(do func(re, im uint64, c complex128)) {
	all := allParts()
	for _, re := range all {
		for _, im := range all {
			do(re, im, number(re, im))
		}
	}
}

// hasForms tells whether a number's parts have these forms, without a call of the package.
func hasForms(c complex128, re, im uint64) bool {
	return formOf(math.Float64bits(real(c))) == formOf(re) && formOf(math.Float64bits(imag(c))) == formOf(im)
}

// P1.1 Bits: the forms of both parts, the real one first.
func TestBits(t *testing.T) {
	if re, im := cnum.Bits(complex(1, -2)); re != 0x3FF0000000000000 || im != 0xC000000000000000 {
		t.Errorf("Bits of 1-2i: %x %x", re, im)
	}
	eachNumber(func(re, im uint64, c complex128) {
		if gotRe, gotIm := cnum.Bits(c); gotRe != formOf(re) || gotIm != formOf(im) {
			t.Errorf("Bits of the parts %x %x: %x %x", re, im, gotRe, gotIm)
		}
	})
}

// P1.1 Bits: what is not a number has one form, whatever its bits are.
func TestBitsOfNotNumbers(t *testing.T) {
	for _, n := range notNumbers {
		if re, im := cnum.Bits(number(n, 0)); re != oneForm || im != 0 {
			t.Errorf("Bits with the real part %x: %x %x", n, re, im)
		}
		if re, im := cnum.Bits(number(sign, n)); re != sign || im != oneForm {
			t.Errorf("Bits with the imaginary part %x: %x %x", n, re, im)
		}
	}
}

// P1.1 Of: the number whose parts have these very bits, those of what is not a number too.
func TestOf(t *testing.T) {
	if c := cnum.Of(0x3FF0000000000000, 0xC000000000000000); c != complex(1, -2) {
		t.Errorf("Of the bits of 1 and -2: %v", c)
	}
	eachNumber(func(re, im uint64, _ complex128) {
		c := cnum.Of(re, im)
		if math.Float64bits(real(c)) != re || math.Float64bits(imag(c)) != im {
			t.Errorf("Of %x %x: %x %x", re, im, math.Float64bits(real(c)), math.Float64bits(imag(c)))
		}
	})
}

// P1.1 Same: by the forms of both parts.
func TestSame(t *testing.T) {
	all := allParts()
	for _, x := range all {
		for _, y := range all {
			want := formOf(x) == formOf(y)
			for _, other := range []uint64{0, sign, 0x3FF0000000000000, 0x7FF0000000000000, 0xFFF8000000000123} {
				if cnum.Same(number(x, other), number(y, other)) != want {
					t.Errorf("Same with the real parts %x and %x, and %x: %v", x, y, other, !want)
				}
				if cnum.Same(number(other, x), number(other, y)) != want {
					t.Errorf("Same with the imaginary parts %x and %x, and %x: %v", x, y, other, !want)
				}
			}
		}
	}
}

// P1.1 Same: zeros with other signs are not the same, nor are numbers whose parts are exchanged.
func TestSameEdges(t *testing.T) {
	minus := math.Copysign(0, -1)
	if cnum.Same(complex(0, 0), complex(minus, 0)) || cnum.Same(complex(0, 0), complex(0, minus)) {
		t.Error("0 and -0 are the same")
	}
	if cnum.Same(complex(1, 2), complex(2, 1)) {
		t.Error("1+2i and 2+1i are the same")
	}
	if !cnum.Same(complex(math.NaN(), 1), number(0xFFF0000000000001, 0x3FF0000000000000)) {
		t.Error("two parts that are not a number are not the same")
	}
	if cnum.Same(complex(math.NaN(), 1), complex(math.NaN(), 2)) {
		t.Error("a part that is not a number hides the other part")
	}
}

// P1.1 Clean: the parts have the forms, bit by bit.
func TestClean(t *testing.T) {
	eachNumber(func(re, im uint64, c complex128) {
		got := cnum.Clean(c)
		if math.Float64bits(real(got)) != formOf(re) || math.Float64bits(imag(got)) != formOf(im) {
			t.Errorf("Clean of the parts %x %x: %x %x", re, im, math.Float64bits(real(got)), math.Float64bits(imag(got)))
		}
	})
}

// P1.2 Turn: the chapter's example, and four turns of an ordinary number.
func TestTurn(t *testing.T) {
	c := complex(1, 2)
	for _, want := range []complex128{complex(-2, 1), complex(-1, -2), complex(2, -1), complex(1, 2)} {
		if c = cnum.Turn(c); c != want {
			t.Errorf("Turn: %v, not %v", c, want)
		}
	}
}

// P1.2 Turn: only the imaginary part's sign is turned, of zeros and infinities too.
func TestTurnParts(t *testing.T) {
	eachNumber(func(re, im uint64, c complex128) {
		if got := cnum.Turn(c); !hasForms(got, im^sign, re) {
			t.Errorf("Turn of the parts %x %x: %v", re, im, got)
		}
	})
}

// P1.2 Mirror: the real part is as it was, the imaginary one has its sign turned.
func TestMirror(t *testing.T) {
	if c := cnum.Mirror(complex(1, 2)); c != complex(1, -2) {
		t.Errorf("Mirror of 1+2i: %v", c)
	}
	eachNumber(func(re, im uint64, c complex128) {
		if got := cnum.Mirror(c); !hasForms(got, re, im^sign) {
			t.Errorf("Mirror of the parts %x %x: %v", re, im, got)
		}
	})
}

// P1.2 Whole: neither part is infinite, nor not a number.
func TestWhole(t *testing.T) {
	eachNumber(func(re, im uint64, c complex128) {
		want := !isInfinite(re) && !isNotNumber(re) && !isInfinite(im) && !isNotNumber(im)
		if cnum.Whole(c) != want {
			t.Errorf("Whole of the parts %x %x: %v", re, im, !want)
		}
	})
}

// P1.2 Less: the real part's place in the order decides, and the imaginary one's where the real ones are the same.
func TestLess(t *testing.T) {
	for aRe := range ordered {
		for aIm := range ordered {
			for bRe := range ordered {
				for bIm := range ordered {
					a, b := number(ordered[aRe], ordered[aIm]), number(ordered[bRe], ordered[bIm])
					want := aRe < bRe || aRe == bRe && aIm < bIm
					if cnum.Less(a, b) != want {
						t.Fatalf("Less of %v and %v: %v", a, b, !want)
					}
				}
			}
		}
	}
}

// P1.2 Less: all parts that are not a number have one place, behind infinity, whatever their bits and signs are.
func TestLessOfNotNumbers(t *testing.T) {
	for _, x := range notNumbers {
		for _, y := range notNumbers {
			if cnum.Less(number(x, 0), number(y, 0)) || cnum.Less(number(0, x), number(0, y)) {
				t.Errorf("%x is ahead of %x", x, y)
			}
			if !cnum.Less(number(x, sign), number(y, 0)) || cnum.Less(number(x, 0), number(y, sign)) {
				t.Errorf("the imaginary parts do not decide behind %x and %x", x, y)
			}
		}
		for _, o := range ordered[:len(ordered)-1] {
			if !cnum.Less(number(o, 0), number(x, 0)) || cnum.Less(number(x, 0), number(o, 0)) {
				t.Errorf("%x is not ahead of %x", o, x)
			}
		}
	}
}

// P1.2 Less: of any two numbers just one is ahead, unless they are the same.
func TestLessIsAnOrder(t *testing.T) {
	all := allParts()
	for _, x := range all {
		for _, y := range all {
			a, b := number(x, y), number(y, x)
			count := 0
			for _, holds := range []bool{cnum.Less(a, b), cnum.Less(b, a), formOf(x) == formOf(y)} {
				if holds {
					count++
				}
			}
			if count != 1 {
				t.Errorf("Less of the parts %x %x and the parts %x %x: %d of three", x, y, y, x, count)
			}
		}
	}
}

// answers is all that the package says of two numbers, as bits.
func answers(a, b complex128) [11]uint64 {
	aRe, aIm := cnum.Bits(a)
	made, clean := cnum.Of(aRe, aIm), cnum.Clean(a)
	turned, mirrored := cnum.Turn(a), cnum.Mirror(a)
	list := [11]uint64{aRe, aIm}
	for i, c := range []complex128{made, clean, turned, mirrored} {
		list[2+2*i], list[3+2*i] = math.Float64bits(real(c)), math.Float64bits(imag(c))
	}
	for i, holds := range []bool{cnum.Same(a, b), cnum.Less(a, b), cnum.Whole(a)} {
		if holds {
			list[10] |= 1 << i
		}
	}
	return list
}

// P1 and P2: every call ends without a panic, and says the same again whatever was asked in between.
func TestAnswersHangOnArgumentsAlone(t *testing.T) {
	all := allParts()
	var first [][11]uint64
	for _, x := range all {
		for _, y := range all {
			first = append(first, answers(number(x, y), number(y, x)))
		}
	}
	for i := len(first) - 1; i >= 0; i-- {
		x, y := all[i/len(all)], all[i%len(all)]
		if answers(number(x, y), number(y, x)) != first[i] {
			t.Errorf("the parts %x %x have other answers the second time", x, y)
		}
	}
}
