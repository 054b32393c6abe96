package crc_test

import (
	"bytes"
	"math"
	"slices"
	"testing"

	"cloakroom/api"
	"cloakroom/crc"
)

// sums holds bytes and their sums, which another program has worked out.
var sums = []struct {
	text string
	sum  uint16
}{
	{"", 0x0000},
	{"123456789", 0x906E},
	{"\x00", 0xF078},
	{"\xFF", 0xFF00},
	{"\x01", 0xE1F1},
	{"\x80", 0x7470},
	{"\x00\x00", 0x0F47},
	{"\xFF\xFF", 0xFFFF},
	{"A", 0xA3F5},
	{"cloak", 0x930A},
	{"cloakroom", 0x34AA},
}

// behindEnd holds places whose bits, and those above them, are behind the end of any list of a test.
var behindEnd = []int{1 << 20, 1 << 31, 1 << 32, 1<<32 + 3, 1 << 61, 1 << 62, math.MaxInt - 16, math.MaxInt - 15, math.MaxInt - 1, math.MaxInt}

// aheadOfStart holds places below 0.
var aheadOfStart = []int{-1, -2, -7, -8, -15, -16, -17, -1 << 32, -1 << 61, math.MinInt + 1, math.MinInt}

// masks holds masks with their highest bits at all places.
func masks() []uint16 {
	list := []uint16{0, 5, 0x0101, 0x1234, 0x8001, 0xAAAA, 0x5555, 0xFFFE, 0xFFFF}
	for k := range 16 {
		list = append(list, 1<<k, 1<<k-1)
	}
	return list
}

// some is so many bytes, one other than the next.
func some(size int) []byte {
	var list []byte
	for i := range size {
		list = append(list, byte(i*167+i/256))
	}
	return list
}

// sumOf divides by the polynomial as it is, not turned about, bit by bit, so that it does not lean on what is tested.
func sumOf(b []byte) uint16 {
	remainder := uint32(0xFFFF)
	for n := range 8 * len(b) {
		remainder = remainder<<1 ^ uint32(b[n/8]>>(n%8)&1)<<16
		if remainder >= 0x10000 {
			remainder ^= 0x11021
		}
	}
	var sum uint16
	for k := range 16 {
		sum |= uint16(remainder>>(15-k)&1) << k
	}
	return ^sum
}

// turned asks each bit of the answer whether it is another one.
func turned(b []byte, at int, mask uint16) []byte {
	list := bytes.Clone(b)
	for n := range 8 * len(b) {
		if n >= at && n-at < 16 && mask&(1<<(n-at)) != 0 {
			list[n/8] ^= 1 << (n % 8)
		}
	}
	return list
}

// highest is the place of the mask's highest bit, -1 if it has none.
func highest(mask uint16) int {
	place := -1
	for k := range 16 {
		if mask&(1<<k) != 0 {
			place = k
		}
	}
	return place
}

func checkOpen(t *testing.T, frame, want []byte) {
	t.Helper()
	if got, e := crc.Open(frame); e != api.OK || !bytes.Equal(got, want) {
		t.Errorf("Open of %x: %x, %d", frame, got, e)
	}
}

func checkNoFrame(t *testing.T, frame []byte) {
	t.Helper()
	if got, e := crc.Open(frame); e != api.ErrFrame || len(got) != 0 {
		t.Errorf("Open of %x: %x, %d", frame, got, e)
	}
}

func checkBurst(t *testing.T, b []byte, at int, mask uint16, want []byte) {
	t.Helper()
	if got := crc.Burst(b, at, mask); !bytes.Equal(got, want) {
		t.Errorf("Burst of %x at %d by %x: %x, not %x", b, at, mask, got, want)
	}
}

// The section Errors: the number of the error.
func TestErrorNumber(t *testing.T) {
	if _, e := crc.Open(nil); e != 31 {
		t.Errorf("Open of nothing: %d", e)
	}
}

// P3.1 Of: the chapter's example, and other sums that are known.
func TestOf(t *testing.T) {
	for _, s := range sums {
		if got := crc.Of([]byte(s.text)); got != s.sum {
			t.Errorf("Of %q: %04X, not %04X", s.text, got, s.sum)
		}
	}
	if got := crc.Of(make([]byte, 32)); got != 0xCD70 {
		t.Errorf("Of 32 bytes of 0: %04X", got)
	}
}

// P3.1 Of: every byte alone, every one behind another, and bytes of many lengths.
func TestOfAllBytes(t *testing.T) {
	for i := range 256 * 256 {
		b := []byte{byte(i), byte(i >> 8)}
		if got := crc.Of(b); got != sumOf(b) {
			t.Fatalf("Of %x: %04X, not %04X", b, got, sumOf(b))
		}
		if got := crc.Of(b[:1]); got != sumOf(b[:1]) {
			t.Fatalf("Of %x: %04X, not %04X", b[:1], got, sumOf(b[:1]))
		}
	}
	for _, size := range []int{3, 4, 17, 255, 256, 257, 5000, 70000} {
		if got := crc.Of(some(size)); got != sumOf(some(size)) {
			t.Errorf("Of %d bytes: %04X, not %04X", size, got, sumOf(some(size)))
		}
	}
}

// P3.1 Of: no parts and empty parts have the sum of no bytes.
func TestOfNothing(t *testing.T) {
	for _, parts := range [][][]byte{nil, {}, {nil}, {{}}, {nil, {}, nil}, make([][]byte, 1000)} {
		if got := crc.Of(parts...); got != 0 {
			t.Errorf("Of %d empty parts: %04X", len(parts), got)
		}
	}
}

// P3.1 Of: however bytes are cut into parts, they have one sum.
func TestOfParts(t *testing.T) {
	b := some(40)
	want := sumOf(b)
	for i := range len(b) + 1 {
		for j := i; j <= len(b); j++ {
			for _, parts := range [][][]byte{{b[:i], b[i:j], b[j:]}, {nil, b[:i], {}, b[i:j], b[j:], nil}} {
				if got := crc.Of(parts...); got != want {
					t.Errorf("Of %x cut at %d and %d: %04X, not %04X", b, i, j, got, want)
				}
			}
		}
	}
	var single [][]byte
	for _, x := range b {
		single = append(single, []byte{x})
	}
	if got := crc.Of(single...); got != want {
		t.Errorf("Of %x, each byte a part: %04X, not %04X", b, got, want)
	}
	if got := crc.Of([]byte("56789"), []byte("1234")); got != sumOf([]byte("567891234")) {
		t.Errorf("Of parts the other way round: %04X", got)
	}
}

// P3.2 Seal: the chapter's example: nothing has the sum 0.
func TestSealOfNothing(t *testing.T) {
	for _, b := range [][]byte{nil, {}} {
		if got := crc.Seal(b); !bytes.Equal(got, []byte{0, 0}) {
			t.Errorf("Seal of nothing: %x", got)
		}
	}
	checkOpen(t, []byte{0, 0}, nil)
}

// P3.2 Seal: the bytes, and their sum, its lowest byte first; Open: the bytes again.
func TestSealAndOpen(t *testing.T) {
	frame := []byte("123456789\x6E\x90")
	if got := crc.Seal([]byte("123456789")); !bytes.Equal(got, frame) {
		t.Errorf("Seal of the nine digits: %x", got)
	}
	checkOpen(t, frame, []byte("123456789"))
	for _, s := range sums {
		want := append([]byte(s.text), byte(s.sum), byte(s.sum>>8))
		if got := crc.Seal([]byte(s.text)); !bytes.Equal(got, want) {
			t.Errorf("Seal of %q: %x, not %x", s.text, got, want)
		}
		checkOpen(t, want, []byte(s.text))
	}
	for size := range 600 {
		b := some(size)
		sum := sumOf(b)
		want := append(bytes.Clone(b), byte(sum), byte(sum>>8))
		if got := crc.Seal(b); !bytes.Equal(got, want) {
			t.Errorf("Seal of %d bytes: %x, not %x", size, got, want)
		}
		checkOpen(t, want, b)
	}
}

// P3.2 Open: a frame's Seal is opened to the frame, sum and all.
func TestOpenOfSealedFrames(t *testing.T) {
	frame := []byte("cloak")
	var under [][]byte
	for range 10 {
		under = append(under, frame)
		frame = crc.Seal(frame)
	}
	for _, want := range slices.Backward(under) {
		checkOpen(t, frame, want)
		frame, _ = crc.Open(frame)
	}
}

// P3.2 Open: no bytes, and one, are nobody's Seal.
func TestOpenOfTooFewBytes(t *testing.T) {
	checkNoFrame(t, nil)
	checkNoFrame(t, []byte{})
	checkNoFrame(t, make([]byte, 0, 8))
	checkNoFrame(t, make([]byte, 1, 8))
	for i := range 256 {
		checkNoFrame(t, []byte{byte(i)})
	}
}

// P3.2 Open: of all sums behind some bytes, one alone makes a frame.
func TestOpenOfOtherSums(t *testing.T) {
	for _, text := range []string{"", "\x00", "\xFF\xFF", "cloak", "123456789"} {
		sum := sumOf([]byte(text))
		for i := range 1 << 16 {
			frame := append([]byte(text), byte(i), byte(i>>8))
			if i == int(sum) {
				checkOpen(t, frame, []byte(text))
			} else {
				checkNoFrame(t, frame)
			}
		}
	}
	checkNoFrame(t, []byte("123456789\x90\x6E"))
}

// P3.2 Open: a frame with a byte fewer, or one more, at either end.
func TestOpenOfCutFrames(t *testing.T) {
	frame := []byte("123456789\x6E\x90")
	for size := range len(frame) {
		checkNoFrame(t, frame[:size])
		checkNoFrame(t, frame[size+1:])
	}
	checkNoFrame(t, append([]byte{0}, frame...))
	checkNoFrame(t, append(bytes.Clone(frame), 0))
}

// P3.3 Burst: which bits are turned: the place tells byte and bit, the mask from its lowest bit on.
func TestBurstOfKnownBits(t *testing.T) {
	zeros := []byte{0, 0, 0, 0}
	checkBurst(t, zeros, 0, 1, []byte{1, 0, 0, 0})
	checkBurst(t, zeros, 7, 1, []byte{0x80, 0, 0, 0})
	checkBurst(t, zeros, 8, 1, []byte{0, 1, 0, 0})
	checkBurst(t, zeros, 7, 3, []byte{0x80, 1, 0, 0})
	checkBurst(t, zeros, 0, 0xFFFF, []byte{0xFF, 0xFF, 0, 0})
	checkBurst(t, zeros, 4, 0xFFFF, []byte{0xF0, 0xFF, 0x0F, 0})
	checkBurst(t, zeros, 16, 0x8001, []byte{0, 0, 1, 0x80})
	checkBurst(t, zeros, 3, 0x1234, []byte{0xA0, 0x91, 0, 0})
	checkBurst(t, []byte{0xFF, 0x0F, 0xAA}, 2, 0x0FF0, []byte{0x3F, 0x30, 0xAA})
}

// P3.3 Burst: every place, masks of all lengths: those bits and no others, unless one of them is behind the end.
func TestBurst(t *testing.T) {
	for size := range 6 {
		b := some(size)
		for _, mask := range masks() {
			for at := -20; at < 8*size+20; at++ {
				want := b
				if at >= 0 && at+highest(mask) < 8*size {
					want = turned(b, at, mask)
				}
				checkBurst(t, b, at, mask, want)
			}
		}
	}
}

// P3.3 Burst: the last bit is turned, the first bit behind the end is not, and then neither is any other one.
func TestBurstAtTheEnd(t *testing.T) {
	b := []byte{1, 2, 3}
	checkBurst(t, b, 23, 1, []byte{1, 2, 0x83})
	checkBurst(t, b, 24, 1, b)
	checkBurst(t, b, 22, 3, []byte{1, 2, 0xC3})
	checkBurst(t, b, 23, 3, b)
	checkBurst(t, b, 8, 0xFFFF, []byte{1, 0xFD, 0xFC})
	checkBurst(t, b, 9, 0xFFFF, b)
	checkBurst(t, b, 9, 0x8001, b)
	checkBurst(t, b, 24, 0xFFFF, b)
	checkBurst(t, nil, 0, 1, nil)
	checkBurst(t, []byte{5}, 0, 0xFFFF, []byte{5})
	checkBurst(t, []byte{5}, 0, 0x0100, []byte{5})
}

// P3.3 Burst: bits of the mask that are 0 turn nothing, so they may lie behind the end.
func TestBurstWithHighestBitsOfZero(t *testing.T) {
	b := []byte{1, 2, 3}
	checkBurst(t, b, 9, 0x7FFF, []byte{1, 0xFC, 0xFC})
	checkBurst(t, b, 16, 0x00FF, []byte{1, 2, 0xFC})
	checkBurst(t, b, 20, 0x000F, []byte{1, 2, 0xF3})
	checkBurst(t, []byte{5}, 0, 0x0081, []byte{0x84})
	checkBurst(t, []byte{5}, 5, 0x0004, []byte{0x85})
	for k := range 16 {
		zeros := make([]byte, 16)
		want := make([]byte, 16)
		want[15] = 0x80
		checkBurst(t, zeros, 127-k, 1<<k, want)
		checkBurst(t, zeros, 128-k, 1<<k, zeros)
	}
}

// P3.3 Burst: below 0, and far behind the end, nothing is turned, though a bit of the mask may seem to be within.
func TestBurstFarAway(t *testing.T) {
	for _, b := range [][]byte{nil, {7}, {1, 2, 3}, some(100)} {
		for _, at := range append(slices.Clone(behindEnd), aheadOfStart...) {
			for _, mask := range masks() {
				checkBurst(t, b, at, mask, b)
			}
		}
	}
}

// P3.3 Burst: the mask 0 turns nothing, wherever it is.
func TestBurstByNothing(t *testing.T) {
	for size := range 5 {
		for at := -9; at < 60; at++ {
			checkBurst(t, some(size), at, 0, some(size))
		}
	}
}

// P3.3: a Burst twice, and all is as it was.
func TestBurstTwice(t *testing.T) {
	b := some(7)
	for _, mask := range masks() {
		for at := -1; at < 58; at++ {
			checkBurst(t, crc.Burst(b, at, mask), at, mask, b)
		}
	}
}

// checkBursts puts a Burst of each place over the frame.
func checkBursts(t *testing.T, b []byte, mask uint16) {
	t.Helper()
	frame := crc.Seal(b)
	for at := -1; at <= 8*len(frame); at++ {
		burst := crc.Burst(frame, at, mask)
		got, e := crc.Open(burst)
		switch changed := at >= 0 && at+highest(mask) < 8*len(frame); {
		case changed == bytes.Equal(burst, frame):
			t.Fatalf("Burst of %x at %d by %x: %x", frame, at, mask, burst)
		case changed && (e != api.ErrFrame || len(got) != 0):
			t.Fatalf("%x with a Burst at %d by %x is a frame of %x, %d", frame, at, mask, got, e)
		case !changed && (e != api.OK || !bytes.Equal(got, b)):
			t.Fatalf("%x with no bit turned is a frame of %x, %d", frame, got, e)
		}
	}
}

// P3.4: every mask but 0 at every place makes what is no frame of a frame, or leaves it as it was.
func TestFramesWithBursts(t *testing.T) {
	for _, b := range [][]byte{nil, {0}, {0xFF, 0x5A}, []byte("coat")} {
		for mask := 1; mask <= math.MaxUint16; mask++ {
			checkBursts(t, b, uint16(mask))
		}
	}
	for _, size := range []int{9, 40, 300} {
		for _, mask := range masks() {
			if mask != 0 {
				checkBursts(t, some(size), mask)
			}
		}
	}
}

// roomy is the list with spare room behind it that is filled, so that a write there is seen.
func roomy(list []byte) ([]byte, []byte) {
	whole := append(bytes.Clone(list), bytes.Repeat([]byte{77}, 40)...)
	return whole[:len(list)], whole
}

// fill writes over a list and all of its spare room.
func fill(list []byte) {
	list = list[:cap(list)]
	for i := range list {
		list[i] = 99
	}
}

// What is handed in is not changed, spare room included, be the answer an error or not, nor by writing into the answer.
func TestArgumentsAreNotChanged(t *testing.T) {
	for _, b := range [][]byte{nil, {0}, {0, 0}, {1, 2, 3}, []byte("123456789\x6E\x90"), some(50), crc.Seal(some(50))} {
		given, whole := roomy(b)
		before := bytes.Clone(whole)
		parts := [][]byte{given, nil, given}
		crc.Of(parts...)
		fill(crc.Seal(given))
		got, _ := crc.Open(given)
		fill(got)
		for _, at := range []int{-1, 0, 3, 8*len(b) - 1, 8 * len(b), math.MaxInt} {
			for _, mask := range masks() {
				fill(crc.Burst(given, at, mask))
			}
		}
		if !bytes.Equal(whole, before) {
			t.Errorf("%x was changed to %x", before, whole)
		}
		if !bytes.Equal(parts[0], b) || parts[1] != nil || !bytes.Equal(parts[2], b) {
			t.Errorf("the parts became %x", parts)
		}
	}
}

// What is handed in is not kept: answers stand when it is written over, and when other answers are.
func TestAnswersAreNewMemory(t *testing.T) {
	given, whole := roomy([]byte("123456789\x6E\x90"))
	want := bytes.Clone(given)
	sealed := crc.Seal(given[:9])
	opened, _ := crc.Open(given)
	bursts := [][]byte{crc.Burst(given, 3, 0), crc.Burst(given, -1, 7), crc.Burst(given, 88, 1)}
	other := crc.Burst(given, 0, 1)
	fill(whole)
	fill(other)
	if !bytes.Equal(sealed, want) || !bytes.Equal(opened, want[:9]) {
		t.Errorf("the answers became %x and %x", sealed, opened)
	}
	for i, burst := range bursts {
		if !bytes.Equal(burst, want) {
			t.Errorf("Burst's answer became %x", burst)
		}
		fill(bursts[i])
	}
	again := crc.Seal([]byte("123456789"))
	fill(sealed)
	if !bytes.Equal(again, want) {
		t.Errorf("Seal's answer became %x", again)
	}
}

// told is all that the package says of some bytes, a place and a mask, as one list.
func told(b []byte, at int, mask uint16) []byte {
	sum := crc.Of(b, b)
	list := []byte{byte(sum), byte(sum >> 8)}
	list = append(list, crc.Seal(b)...)
	opened, e := crc.Open(b)
	list = append(append(list, byte(e), byte(len(opened))), opened...)
	return append(list, crc.Burst(b, at, mask)...)
}

// P1 and P2: every call ends without a panic, and says the same again whatever was asked in between.
func TestAnswersHangOnArgumentsAlone(t *testing.T) {
	lists := [][]byte{nil, {}, {0}, {0, 0}, {1, 2}, some(9), crc.Seal(some(9)), some(200), crc.Seal(some(200))}
	places := []int{0, 1, 7, 8, 71, 72, 87, 88, 1599, 1600}
	places = append(append(places, behindEnd...), aheadOfStart...)
	each := func(do func(b []byte, at int, mask uint16)) {
		for _, b := range lists {
			for _, at := range places {
				for _, mask := range masks() {
					do(b, at, mask)
				}
			}
		}
	}
	var first [][]byte
	each(func(b []byte, at int, mask uint16) { first = append(first, told(b, at, mask)) })
	asked := 0
	each(func(b []byte, at int, mask uint16) {
		if !bytes.Equal(told(b, at, mask), first[asked]) {
			t.Errorf("%x at %d by %x has other answers the second time", b, at, mask)
		}
		asked++
	})
}
