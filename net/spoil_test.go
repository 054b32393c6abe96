package net_test

import (
	"math"
	"slices"
	"strings"
	"testing"

	"cloakroom/api"
	"cloakroom/crc"
	"cloakroom/net"
)

// masks are some that turn nothing, one bit, the last bit, and many.
var masks = []uint16{0, 1, 2, 3, 5, 0x80, 0x100, 0x101, 0x7fff, 0x8000, 0x8001, 0xaaaa, 0xffff}

// turned is what Spoil has to make of a text, bit by bit, and whether it is another one.
func turned(text string, at int, mask uint16) (string, bool) {
	b := []byte(text)
	for k := range 16 {
		if mask>>k&1 == 0 {
			continue
		}
		// at is held to the text ahead of the sum, since the sum may be more than a number holds.
		if at < 0 || at >= 8*len(b) || at+k >= 8*len(b) {
			return text, false
		}
		b[(at+k)/8] ^= 1 << ((at + k) % 8)
	}
	return string(b), mask != 0
}

// places are all bits of a text, and those that are none of its own.
func places(text string) []int {
	end := 8 * len(text)
	list := []int{math.MinInt, math.MinInt + 1, math.MinInt32, -1 << 32, -17, -16, -15, -8, -1,
		end, end + 1, end + 8, end + 16, 1 << 31, 1 << 32, 1<<32 + 1, 1 << 61, 1 << 62, math.MaxInt - 15, math.MaxInt - 1, math.MaxInt}
	for bit := range end {
		list = append(list, bit)
	}
	return list
}

// P20.2 Spoil: the Burst takes the frame's place, which is SPOILT then; where it is the same frame, the answer is false,
// nothing changes, and the frame can be spoilt later.
func TestSpoil(t *testing.T) {
	for _, text := range []string{"", "a", "\x00\xff", "abc", "short!"} {
		for _, mask := range masks {
			for _, at := range places(text) {
				want, ok := turned(text, at, mask)
				if burst := string(crc.Burst([]byte(text), at, mask)); burst != want {
					t.Fatalf("the Burst of %q with %d and %04x is %q, not %q", text, at, mask, burst, want)
				}
				n := net.New()
				checkPut(t, n, 2, "ahead", text, "behind")
				checkSpoil(t, n, 2, 1, at, mask, ok)
				checkLane(t, n, 2, []told{{text: "ahead"}, {want, ok}, {text: "behind"}})
			}
		}
	}
}

// P20.2 Spoil: in each place, of that frame alone, on a full lane, too.
func TestSpoilOfEachPlace(t *testing.T) {
	for _, many := range sizes {
		for i := range many {
			n := filled(t, 5, many)
			list := good(names(many)...)
			checkSpoil(t, n, 5, i, 11, 0x8001, true)
			want, _ := turned(list[i].text, 11, 0x8001)
			list[i] = told{want, true}
			checkLane(t, n, 5, list)
		}
	}
}

// P20.2 Spoil: the last bit of a frame is one of its own, the next one isn't, however wide the mask.
func TestSpoilAtTheEnd(t *testing.T) {
	for _, size := range []int{1, 2, 3, 100, 70000} {
		text := strings.Repeat("z", size)
		for width := 1; width <= min(16, 8*size); width++ {
			for _, mask := range []uint16{1 << (width - 1), 1<<width - 1} {
				n := net.New()
				checkPut(t, n, 0, text)
				for _, at := range []int{8*size - width + 1, 8 * size, -1, math.MinInt, math.MaxInt} {
					checkSpoil(t, n, 0, 0, at, mask, false)
				}
				checkSpoil(t, n, 0, 0, 8*size-width, mask, true)
				want, _ := turned(text, 8*size-width, mask)
				checkTake(t, n, 0, 0, want)
			}
		}
	}
}

// P20.2 Spoil: a mask that is wider than the frame turns nothing of it.
func TestSpoilWithTooWideMask(t *testing.T) {
	n := net.New()
	checkPut(t, n, 3, "x")
	for at := -20; at < 20; at++ {
		for _, mask := range []uint16{0x100, 0x101, 0x8000, 0xffff} {
			checkSpoil(t, n, 3, 0, at, mask, false)
		}
	}
	checkSpoil(t, n, 3, 0, 0, 0xff, true)
	checkLane(t, n, 3, []told{{"\x87", true}})
}

// P20.2 Spoil: a frame without bytes can't be.
func TestSpoilOfNone(t *testing.T) {
	n := net.New()
	if !n.Put(1, nil) || !n.Put(1, []byte{}) {
		t.Error("Put of none is refused")
	}
	for _, mask := range masks {
		for _, at := range places("") {
			checkSpoil(t, n, 1, 0, at, mask, false)
			checkSpoil(t, n, 1, 1, at, mask, false)
		}
	}
	checkLane(t, n, 1, good("", ""))
}

// P20.2 Spoil: a refused one leaves the frame as it was, so that it can be spoilt behind any number of them.
func TestSpoilLater(t *testing.T) {
	n := net.New()
	checkPut(t, n, 4, "frame")
	for _, mask := range masks {
		checkSpoil(t, n, 4, 0, -1, mask, false)
		checkSpoil(t, n, 4, 0, 40, mask, false)
	}
	for at := range 41 {
		checkSpoil(t, n, 4, 0, at, 0, false)
	}
	checkSpoil(t, n, 4, 0, 0, 1, true)
	checkLane(t, n, 4, []told{{"grame", true}})
}

// P20.2 Spoil: a second one is refused, also where it would turn the same bits back, or none, and nothing changes.
func TestSpoilTwice(t *testing.T) {
	for _, first := range masks[1:] {
		for _, second := range masks {
			for _, at := range places("two") {
				n := net.New()
				checkPut(t, n, 7, "two", "next")
				checkSpoil(t, n, 7, 0, 3, first, true)
				checkSpoil(t, n, 7, 0, at, second, false)
				checkSpoil(t, n, 7, 0, 3, first, false)
				want, _ := turned("two", 3, first)
				checkLane(t, n, 7, []told{{want, true}, {text: "next"}})
			}
		}
	}
}

// P20.2 Double, Spoil: one like a SPOILT one is SPOILT, and so is one like that.
func TestSpoilOfDoubleOfSpoilt(t *testing.T) {
	n := net.New()
	checkPut(t, n, 2, "a")
	checkSpoil(t, n, 2, 0, 1, 1, true)
	checkDouble(t, n, 2, 0)
	checkDouble(t, n, 2, 1)
	for i := range 3 {
		for at := range 8 {
			checkSpoil(t, n, 2, i, at, 1, false)
		}
	}
	checkTake(t, n, 2, 0, "c")
	checkSpoil(t, n, 2, 0, 0, 1, false)
	checkLane(t, n, 2, []told{{"c", true}, {"c", true}})
}

// P20.2 Double, Spoil: one like a frame that is not SPOILT is its own: either may be spoilt, and the other one stays.
func TestSpoilOfDouble(t *testing.T) {
	for _, first := range []int{0, 1} {
		n := net.New()
		checkPut(t, n, 2, "a")
		checkDouble(t, n, 2, 0)
		checkSpoil(t, n, 2, first, 1, 1, true)
		checkSpoil(t, n, 2, first, 2, 1, false)
		list := good("a", "a")
		list[first] = told{"c", true}
		checkLane(t, n, 2, list)

		checkPut(t, n, 2, "a")
		checkDouble(t, n, 2, 0)
		checkSpoil(t, n, 2, first, 1, 1, true)
		checkSpoil(t, n, 2, 1-first, 2, 1, true)
		list = []told{{"e", true}, {"e", true}}
		list[first].text = "c"
		checkLane(t, n, 2, list)
	}
}

// P20.2 Late, Spoil: one that was SPOILT is so behind a Late, too; one that wasn't isn't, though it stands where one was.
func TestSpoilOfLate(t *testing.T) {
	for i := range 3 {
		n := net.New()
		checkPut(t, n, 6, "a", "i", "q")
		list := good("a", "i", "q")
		checkSpoil(t, n, 6, i, 1, 1, true)
		checkLate(t, n, 6, i)
		checkSpoil(t, n, 6, 2, 2, 1, false)
		late, _ := turned(list[i].text, 1, 1)
		list = append(slices.Delete(list, i, i+1), told{late, true})
		for k := range 2 {
			checkSpoil(t, n, 6, k, 2, 1, true)
			list[k].text, list[k].spoilt = turned(list[k].text, 2, 1)
		}
		checkLane(t, n, 6, list)
	}
}

// P20.2 Take, Spoil: what stands where a SPOILT one was taken is not SPOILT, be it the next one or one that is put.
func TestSpoilOfTheNext(t *testing.T) {
	n := net.New()
	checkPut(t, n, 0, "a", "b", "c")
	checkSpoil(t, n, 0, 1, 3, 1, true)
	checkTake(t, n, 0, 1, "j")
	checkSpoil(t, n, 0, 1, 3, 1, true)
	checkTake(t, n, 0, 1, "k")
	checkPut(t, n, 0, "d")
	checkSpoil(t, n, 0, 1, 3, 1, true)
	checkTake(t, n, 0, 1, "l")
	checkSpoil(t, n, 0, 0, 3, 1, true)
	checkTake(t, n, 0, 0, "i")
	checkPut(t, n, 0, "e", "f")
	checkSpoil(t, n, 0, 0, 3, 1, true)
	checkSpoil(t, n, 0, 1, 3, 1, true)
	checkLane(t, n, 0, []told{{"m", true}, {"n", true}})
}

// P20.1 Put: what is put is not SPOILT, though it has the bytes of a SPOILT one that is there, or was taken.
func TestPutOfSpoiltBytes(t *testing.T) {
	n := net.New()
	checkPut(t, n, 3, "a")
	checkSpoil(t, n, 3, 0, 1, 1, true)
	checkPut(t, n, 3, "c")
	checkPut(t, n, 4, "c")
	checkSpoil(t, n, 3, 0, 2, 1, false)
	checkSpoil(t, n, 3, 1, 2, 1, true)
	checkSpoil(t, n, 4, 0, 2, 1, true)
	checkAll(t, n, content{3: {{"c", true}, {"g", true}}, 4: {{"g", true}}})

	checkPut(t, n, 3, "a")
	checkSpoil(t, n, 3, 0, 1, 1, true)
	b, _ := n.Take(3, 0)
	checkPut(t, n, 3, string(b))
	checkLane(t, n, 3, good("c"))
}

// P20.2 Spoil: a frame whose Burst is like another one there is SPOILT all the same, and the other one isn't.
func TestSpoilToTheSameAsAnother(t *testing.T) {
	n := net.New()
	checkPut(t, n, 1, "c", "a", "c")
	checkSpoil(t, n, 1, 1, 1, 1, true)
	checkLane(t, n, 1, []told{{text: "c"}, {"c", true}, {text: "c"}})
}

// P20.2 Spoil with P3.4: what layer 3 has sealed it doesn't open, once it is SPOILT; one that isn't opens.
func TestSpoilOfSealed(t *testing.T) {
	text := []byte("cloak")
	frame := crc.Seal(text)
	for _, mask := range masks {
		for _, at := range places(string(frame)) {
			n := net.New()
			n.Put(0, frame)
			spoilt := n.Spoil(0, 0, at, mask)
			b, ok := n.Take(0, 0)
			if opened, e := crc.Open(b); !ok || spoilt != (e == api.ErrFrame) || !spoilt && string(opened) != string(text) {
				t.Fatalf("%d %04x: %t, and it opens as %q %d", at, mask, spoilt, opened, e)
			}
		}
	}
}
