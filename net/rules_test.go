package net_test

import (
	"bytes"
	"slices"
	"testing"

	"cloakroom/net"
)

// fill writes over a list and all of its spare room.
func fill(list []byte) {
	list = list[:cap(list)]
	for k := range list {
		list[k] = 99
	}
}

// long is a text of that size, which hangs on its number.
func long(number, size int) string {
	b := make([]byte, size)
	for k := range b {
		b[k] = byte(number + 7*k)
	}
	return string(b)
}

// lengths are sizes of frames: such that a list of bytes has spare room with among them.
var lengths = []int{1, 2, 3, 7, 8, 9, 31, 33, 100, 700, 5000}

// A frame that is handed in is not changed, spare room included, and nothing about it, be it taken or refused.
func TestFramesAreNotChanged(t *testing.T) {
	given := []byte(long(3, 900))
	before := bytes.Clone(given)
	for _, size := range []int{0, 1, 300, 700} {
		n := net.New()
		for range most + 2 {
			for _, lane := range []int{-1, 0, 5, lanes} {
				n.Put(lane, given[100:100+size])
			}
			n.Late(5, 0)
			n.Double(5, 1)
		}
		n.Spoil(0, 0, 0, 1)
		n.Spoil(0, 3, 2, 0xffff)
		for n.Len(0)+n.Len(5) > 0 {
			n.Spoil(5, 0, 1, 3)
			for _, lane := range []int{0, 5} {
				b, _ := n.Take(lane, 0)
				fill(b)
			}
		}
		if !bytes.Equal(given, before) {
			t.Fatalf("with %d bytes what was handed in has changed", size)
		}
	}
}

// A frame that is handed in is not kept: written over behind a Put, its spare room too, it is on its way as it was.
func TestFramesAreNotKept(t *testing.T) {
	for _, size := range append(lengths, 0) {
		n := net.New()
		room := make([]byte, size, size+50)
		var want []string
		for k := range 5 {
			text := long(k, size)
			copy(room, text)
			if !n.Put(2, room) {
				t.Error("Put is refused")
			}
			fill(room)
			want = append(want, text)
		}
		checkLane(t, n, 2, good(want...))
	}
}

// What is taken is new memory: written over, spare room too, it changes neither what is there nor another answer.
func TestTakenIsNewMemory(t *testing.T) {
	for _, size := range lengths {
		for i := range 4 {
			n := net.New()
			list := []string{long(0, size), long(1, size), long(2, size), long(3, size)}
			checkPut(t, n, 1, list...)
			b, _ := n.Take(1, i)
			fill(b)
			list = slices.Delete(list, i, i+1)
			kept, _ := n.Take(1, 0)
			other, _ := n.Take(1, 0)
			fill(other)
			checkPut(t, n, 1, "new")
			if string(kept) != list[0] {
				t.Errorf("behind a change of another answer, what was taken is %x", kept)
			}
			checkLane(t, n, 1, good(list[2], "new"))
		}
	}
}

// What is taken stays as it was, whatever becomes of the net behind it.
func TestTakenStays(t *testing.T) {
	for _, size := range lengths {
		n := net.New()
		var taken [][]byte
		for k := range 40 {
			checkPut(t, n, 4, long(k, size))
			checkDouble(t, n, 4, 0)
			b, _ := n.Take(4, 0)
			taken = append(taken, b)
			n.Spoil(4, 0, 1, 1)
			n.Late(4, 0)
			b, _ = n.Take(4, 0)
			fill(b)
		}
		for k, b := range taken {
			if string(b) != long(k, size) {
				t.Errorf("what was taken, %d, is %x", k, b)
			}
		}
	}
}

// A Double shares no memory with the frame that it is like: either one taken and written over, the other one stays.
func TestDoubleIsNewMemory(t *testing.T) {
	for _, size := range lengths {
		for first := range 3 {
			for _, spoilt := range []bool{false, true} {
				n := net.New()
				want := long(5, size)
				checkPut(t, n, 7, want)
				if spoilt {
					checkSpoil(t, n, 7, 0, 4, 1, true)
					want, _ = turned(want, 4, 1)
				}
				checkDouble(t, n, 7, 0)
				checkDouble(t, n, 7, 1)
				b, _ := n.Take(7, first)
				fill(b)
				checkLane(t, n, 7, []told{{want, spoilt}, {want, spoilt}})
			}
		}
	}
}

// What is SPOILT shares no memory with what it is made of: taken and written over, the like one stays, and the other
// way round.
func TestSpoiltIsNewMemory(t *testing.T) {
	for _, size := range lengths {
		for first := range 2 {
			n := net.New()
			text := long(9, size)
			checkPut(t, n, 3, text)
			checkDouble(t, n, 3, 0)
			checkSpoil(t, n, 3, 1, 2, 1, true)
			b, _ := n.Take(3, first)
			fill(b)
			want := told{text: text}
			if first == 0 {
				want.text, want.spoilt = turned(text, 2, 1)
			}
			checkLane(t, n, 3, []told{want})
		}
	}
}

// P1: every call ends without a panic at all arguments, on nets with nothing, with some and with full lanes.
func TestAllArguments(t *testing.T) {
	numbers := append(wrong(lanes), 0, 1, 3, 7, 100, most-1, most)
	full, _ := busy(t)
	for _, n := range []*net.Net{net.New(), filled(t, 3, 4), full} {
		for _, a := range numbers {
			net.Lane(a, false)
			net.Lane(a, true)
			n.Len(a)
			n.Put(a, nil)
			n.Put(a, []byte("some"))
			for _, b := range numbers {
				for _, c := range numbers {
					n.Spoil(a, b, c, uint16(c)|1<<15)
					n.Spoil(a, b, c, 1)
				}
				n.Double(a, b)
				n.Late(a, b)
				n.Take(a, b)
			}
		}
	}
}

// row is a row of calls that hangs on where the noise begins alone, and all that is told on the way.
func row(seed int, between func(d deed)) ([]answer, content) {
	n := noise(1 + 977*seed)
	x := net.New()
	var answers []answer
	for range 100 {
		d := n.deed(1+seed%lanes, 5, seed%2 == 0)
		between(d)
		answers = append(answers, d.do(x))
	}
	return answers, drain(x)
}

// P2: what a net answers hangs on the calls to it alone, whatever is asked of others in between.
func TestNetsAreApart(t *testing.T) {
	for seed := range 60 {
		answers, left := row(seed, func(deed) {})
		other := net.New()
		again, leftAgain := row(seed, func(d deed) {
			d.kind = (d.kind + seed) % kinds
			d.do(other)
			net.New().Put(d.lane, []byte("elsewhere"))
		})
		if !slices.Equal(answers, again) || !left.same(leftAgain) {
			t.Errorf("row %d: other answers the second time", seed)
		}
	}
}

// P2: two nets with the same frames don't touch each other, not even those of one list that was handed to both.
func TestTwoNets(t *testing.T) {
	a, b := net.New(), net.New()
	frame := []byte("frame")
	for _, n := range []*net.Net{a, b} {
		if !n.Put(0, frame) || !n.Put(0, frame) {
			t.Error("Put is refused")
		}
	}
	checkSpoil(t, a, 0, 0, 0, 1, true)
	taken, _ := a.Take(0, 1)
	fill(taken)
	checkLen(t, b, 0, 2)
	checkDouble(t, a, 0, 0)
	checkPut(t, a, 5, "new")
	checkLane(t, b, 0, good("frame", "frame"))
	checkAll(t, a, content{0: {{"grame", true}, {"grame", true}}, 5: good("new")})
}
