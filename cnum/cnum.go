// Package cnum is layer 1: see shared/doc/01-cnum.md.
package cnum

import "math"

// notNumber is the one form of a part that is not a number.
const notNumber uint64 = 0x7FF8000000000001

// signBit is the bit of a part that tells its sign.
const signBit uint64 = 1 << 63

// Bits: a number's parts as bits, in one form.
func Bits(c complex128) (uint64, uint64) {
	return form(real(c)), form(imag(c))
}

// Of: the number of bits.
func Of(re, im uint64) complex128 {
	return complex(math.Float64frombits(re), math.Float64frombits(im))
}

// Same: are they the same?
func Same(a, b complex128) bool {
	aRe, aIm := Bits(a)
	bRe, bIm := Bits(b)
	return aRe == bRe && aIm == bIm
}

// Clean: the number in its one form.
func Clean(c complex128) complex128 {
	return Of(Bits(c))
}

// Turn: a quarter of a turn.
//
// A product with 1i would lose the signs of zeros and spoil infinities, so the parts are moved one by one.
func Turn(c complex128) complex128 {
	return complex(-imag(c), real(c))
}

// Mirror: the other side.
func Mirror(c complex128) complex128 {
	return complex(real(c), -imag(c))
}

// Less: is the one ahead of the other?
func Less(a, b complex128) bool {
	aRe, bRe := rank(real(a)), rank(real(b))
	if aRe != bRe {
		return aRe < bRe
	}
	return rank(imag(a)) < rank(imag(b))
}

// Whole: are both parts numbers, and no infinities?
func Whole(c complex128) bool {
	return finite(real(c)) && finite(imag(c))
}

// form gives all that is not a number the same bits, so that bits alone tell which parts are the same.
func form(part float64) uint64 {
	if math.IsNaN(part) {
		return notNumber
	}
	return math.Float64bits(part)
}

// rank puts a part in its place in Less's order. The bits of parts without a sign grow as the parts do, and
// notNumber lies behind infinity; those with a sign grow the other way, so they are turned and come first.
func rank(part float64) uint64 {
	bits := form(part)
	if bits&signBit != 0 {
		return ^bits
	}
	return bits | signBit
}

func finite(part float64) bool {
	return !math.IsNaN(part) && !math.IsInf(part, 0)
}
