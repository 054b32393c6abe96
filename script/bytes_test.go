package script_test

import (
	"bytes"
	"math"
	"slices"
	"testing"

	"cloakroom/api"
	"cloakroom/script"
)

func checkBytes(t *testing.T, s api.Script, want []byte) {
	t.Helper()
	if b, e := script.Bytes(s); e != api.OK || !bytes.Equal(b, want) {
		t.Errorf("Bytes of %+v: %x, %d, not %x", s, b, e, want)
	}
}

func checkNoBytes(t *testing.T, s api.Script) {
	t.Helper()
	if b, e := script.Bytes(s); e != api.ErrScript || len(b) > 0 {
		t.Errorf("Bytes of %+v: %x, %d", s, b, e)
	}
}

func checkRead(t *testing.T, b []byte, want api.Script) {
	t.Helper()
	if s, e := script.Read(b); e != api.OK || !sameScript(s, want) {
		t.Errorf("Read of %x: %+v, %d, not %+v", b, s, e, want)
	}
}

func checkNoScript(t *testing.T, b []byte) {
	t.Helper()
	if s, e := script.Read(b); e != api.ErrScript || s.Config != (api.Config{}) || len(s.Steps) > 0 {
		t.Errorf("Read of %d bytes, %x: %+v, %d", len(b), b[:min(len(b), 200)], s, e)
	}
}

// checkBoth: these are a script's bytes, and nobody else's.
func checkBoth(t *testing.T, s api.Script, want []byte) {
	t.Helper()
	checkBytes(t, s, want)
	checkRead(t, want, s)
}

// stepForm is the bytes of a step of these numbers, with a Value of 1-2i.
func stepForm(list ...int) []byte {
	return append(nums(list...), 0x3F, 0xF0, 0, 0, 0, 0, 0, 0, 0xC0, 0, 0, 0, 0, 0, 0, 0)
}

// emptyForm is those of one with the Value 0.
func emptyForm(list ...int) []byte {
	return append(nums(list...), make([]byte, 16)...)
}

// headForm is the bytes ahead of the steps: two clients in the usual world.
func headForm(steps int) []byte {
	return nums(2, 6, 3, 5, 3000, steps)
}

// P23.2: the chapter's example, one client and no steps, byte by byte.
func TestExampleBytes(t *testing.T) {
	checkBoth(t, api.Script{Config: usual(1)}, []byte{0, 0, 1, 0, 0, 6, 0, 0, 3, 0, 0, 5, 0, 0x0B, 0xB8, 0, 0, 0})
	checkBoth(t, api.Script{Config: usual(1), Steps: []api.Step{}}, []byte{0, 0, 1, 0, 0, 6, 0, 0, 3, 0, 0, 5, 0, 0x0B, 0xB8, 0, 0, 0})
}

// P23.2: a script byte by byte: 18 of the Config and how many steps, 43 of each step.
func TestBytesOfSteps(t *testing.T) {
	s := api.Script{Config: config([5]int{4, 5, 6, 100, 20000}), Steps: []api.Step{
		{Client: 3, Op: api.Op{Kind: api.OpWrite, Page: 5, Obj: 1, Value: complex(1, -2)}},
		{Kind: api.StepSpoil, Lane: 7, N: 258, At: 65535, Mask: 0xABCD},
		{Kind: api.StepFall, N: -1, At: -1},
	}}
	checkBoth(t, s, []byte{
		0, 0, 4, 0, 0, 5, 0, 0, 6, 0, 0, 100, 0, 0x4E, 0x20, 0, 0, 3,
		0, 0, 0, 0, 0, 3, 0, 0, 0, 0, 0, 1, 0, 0, 1, 0, 0, 0, 0, 0, 2, 0, 0, 5, 0, 0, 1,
		0x3F, 0xF0, 0, 0, 0, 0, 0, 0, 0xC0, 0, 0, 0, 0, 0, 0, 0,
		0, 0, 6, 0, 0, 0, 0, 0, 7, 0, 1, 3, 1, 0, 0, 0, 0xAB, 0xCD, 0, 0, 0, 0, 0, 0, 0, 0, 0,
		0, 0, 0, 0, 0, 0, 0, 0, 0, 0, 0, 0, 0, 0, 0, 0,
		0, 0, 10, 0, 0, 0, 0, 0, 0, 0, 0, 0, 0, 0, 0, 0, 0, 0, 0, 0, 0, 0, 0, 0, 0, 0, 0,
		0, 0, 0, 0, 0, 0, 0, 0, 0, 0, 0, 0, 0, 0, 0, 0,
	})
}

// P23.2: each Kind with all that it has at its least and its greatest, number by number.
func TestBytesOfKinds(t *testing.T) {
	op := stepForm(0, 2, 0, 1, 1, 0, 3, 4, 2)
	checkBoth(t, of(api.Step{Client: 2, Op: api.Op{Kind: 3, Page: 4, Obj: 2, Value: complex(1, -2)}}), append(headForm(1), op...))
	for kind := range kinds {
		least, most := []int{kind, 0, 0, 1, 1, 0, 0, 0, 0}, []int{kind, 0, 0, 1, 1, 0, 0, 0, 0}
		for k, p := range parts() {
			// The Mask stands between At and the Op.
			at := k + 1
			if p.of == 'O' {
				at++
			}
			if !does(kind, p.of) {
				continue
			}
			least[at], most[at] = p.least, p.most
			if p.of == 'N' || p.of == 'A' {
				least[at], most[at] = 0, 65536
			}
		}
		if does(kind, 'M') {
			most[5] = 65535
		}
		bounds := ends(kind)
		bounds[0].Op.Value, bounds[1].Op.Value = 0, 0
		checkBoth(t, of(bounds[0]), append(headForm(1), emptyForm(least...)...))
		checkBoth(t, of(bounds[1]), append(headForm(1), emptyForm(most...)...))
		checkBoth(t, of(bounds[1], bounds[0]), slices.Concat(headForm(2), emptyForm(most...), emptyForm(least...)))
	}
}

// P23.2: N and At, by 1 greater than they are: the Num of -1 is 0.
func TestBytesOfNAndAt(t *testing.T) {
	for n, want := range map[int]int{-1: 0, 0: 1, 1: 2, 254: 255, 255: 256, 65534: 65535, 65535: 65536} {
		checkBoth(t, of(api.Step{Kind: api.StepRoom, N: n}), append(headForm(1), emptyForm(14, 0, 0, want, 1, 0, 0, 0, 0)...))
		checkBoth(t, of(api.Step{Kind: api.StepFall, At: n}), append(headForm(1), emptyForm(10, 0, 0, 1, want, 0, 0, 0, 0)...))
		checkBoth(t, of(api.Step{Kind: api.StepDrop, Lane: 1, N: n}), append(headForm(1), emptyForm(4, 0, 1, want, 1, 0, 0, 0, 0)...))
		checkBoth(t, of(api.Step{Kind: api.StepSpoil, N: 3, At: n}), append(headForm(1), emptyForm(6, 0, 0, 4, want, 0, 0, 0, 0)...))
	}
}

// P23.2: the Mask at its edges.
func TestBytesOfMask(t *testing.T) {
	for _, mask := range []uint16{0, 1, 255, 256, 1 << 15, 65534, 65535} {
		checkBoth(t, of(api.Step{Kind: api.StepSpoil, Mask: mask}), append(headForm(1), emptyForm(6, 0, 0, 1, 1, int(mask), 0, 0, 0)...))
	}
}

// P23.2: the bytes of a Value are layer 2's: its bits as they are, whatever sign a zero has.
func TestBytesOfValues(t *testing.T) {
	for _, v := range append(values(), 0, complex(math.Pi, -math.E), complex(-math.MaxFloat64, math.SmallestNonzeroFloat64)) {
		want := slices.Concat(headForm(1), nums(0, 0, 0, 1, 1, 0, 0, 0, 0), floatForm(real(v)), floatForm(imag(v)))
		checkBoth(t, of(api.Step{Op: api.Op{Value: v}}), want)
	}
}

// notNumbers are bits of what is not a number, but those of its one form.
func notNumbers() []uint64 {
	return []uint64{
		0x7FF0000000000001, 0x7FF0000000000002, 0x7FF7FFFFFFFFFFFF, 0x7FF8000000000000, 0x7FF8000000000002, 0x7FFFFFFFFFFFFFFF,
		0xFFF0000000000001, 0xFFF8000000000000, 0xFFF8000000000001, 0xFFFFFFFFFFFFFFFF,
	}
}

// P23.2: of what is not a number there is one form, whatever its bits are, and other ones are nobody's.
func TestBytesOfNotNumbers(t *testing.T) {
	one := eight(0x7FF8000000000001)
	ahead := append(headForm(1), nums(0, 1, 0, 1, 1, 0, 2, 1, 3)...)
	writes := func(re, im float64) api.Script {
		return of(api.Step{Client: 1, Op: api.Op{Kind: 2, Page: 1, Obj: 3, Value: complex(re, im)}})
	}
	for _, bits := range append(notNumbers(), 0x7FF8000000000001) {
		f := math.Float64frombits(bits)
		checkBoth(t, writes(f, 1), slices.Concat(ahead, one, eight(math.Float64bits(1))))
		checkBoth(t, writes(1, f), slices.Concat(ahead, eight(math.Float64bits(1)), one))
		checkBoth(t, writes(f, f), slices.Concat(ahead, one, one))
	}
	for _, bits := range notNumbers() {
		checkNoScript(t, slices.Concat(ahead, eight(bits), eight(0)))
		checkNoScript(t, slices.Concat(ahead, eight(0), eight(bits)))
		checkNoScript(t, slices.Concat(ahead, one, eight(bits)))
		checkNoScript(t, slices.Concat(ahead, eight(bits), eight(bits)))
	}
	for _, bits := range []uint64{0x7FF0000000000000, 0xFFF0000000000000, 0x7FEFFFFFFFFFFFFF, 1 << 63, 1} {
		checkRead(t, slices.Concat(ahead, eight(bits), eight(0)), writes(math.Float64frombits(bits), 0))
	}
}

// farScripts aren't right by numbers that are so far off that their lowest three bytes may be right ones.
func farScripts() []api.Script {
	var list []api.Script
	for kind := range kinds {
		for _, p := range parts() {
			for _, n := range []int{math.MinInt, math.MaxInt, 1 << 24, -1 << 24, 1<<32 + p.most} {
				list = append(list, of(p.with(ends(kind)[0], n)))
			}
		}
	}
	return list
}

// wrongScripts aren't right, of each way in which they can be so; their form isn't one's that is.
func wrongScripts() []api.Script {
	s := of(api.Step{Kind: 15}, api.Step{})
	list := []api.Script{
		{}, s, many(501), {Config: config([5]int{0, 6, 3, 5, 3000})}, {Config: config([5]int{1, 7, 3, 5, 3000})}, {Config: config([5]int{1, 6, 0, 5, 3000})},
		{Config: config([5]int{1, 6, 3, 101, 3000})}, {Config: config([5]int{1, 6, 3, 5, -1})}, {Config: config([5]int{1, 6, 3, 5, 20001}), Steps: []api.Step{{}}},
		of(api.Step{Kind: -1}), of(api.Step{Kind: api.StepTick, N: 1}), of(api.Step{Kind: api.StepSync, Client: 1}), of(api.Step{Kind: api.StepTick, Op: api.Op{Value: complex(0, minusZero())}}),
	}
	for kind := range kinds {
		for _, p := range parts() {
			for _, n := range []int{p.least - 1, p.most + 1} {
				list = append(list, of(api.Step{Kind: api.StepRise}, p.with(ends(kind)[0], n)))
			}
		}
	}
	return list
}

// P23.2: of a script that isn't right there are no bytes.
func TestNoBytes(t *testing.T) {
	for _, s := range append(wrongScripts(), farScripts()...) {
		checkNoBytes(t, s)
	}
}

// P23.2: nothing, or too little for the numbers ahead of the steps.
func TestReadOfTooLittle(t *testing.T) {
	checkNoScript(t, nil)
	checkNoScript(t, []byte{})
	for _, s := range []api.Script{of(), of(api.Step{}), many(3)} {
		b := form(s)
		checkRead(t, b, s)
		for k := range b {
			checkNoScript(t, b[:k])
			checkNoScript(t, b[k+1:])
		}
	}
}

// P23.2: bytes behind those of a script: any, or such as a step's, or those once more.
func TestReadOfTooMuch(t *testing.T) {
	for _, s := range []api.Script{of(), of(api.Step{Kind: api.StepSync}), many(3), many(mostSteps)} {
		b := form(s)
		for _, n := range []int{1, 2, 3, 18, 42, 43, 44, 86} {
			checkNoScript(t, slices.Concat(b, make([]byte, n)))
		}
		checkNoScript(t, slices.Concat(b, emptyForm(0, 0, 0, 1, 1, 0, 0, 0, 0)))
		checkNoScript(t, slices.Concat(b, b))
		checkNoScript(t, slices.Concat([]byte{0}, b))
	}
}

// P23.2: a number of how many steps that isn't how many there are, and more than there can be, whatever is there.
func TestReadOfHowMany(t *testing.T) {
	for _, n := range []int{0, 1, 2, 43, 499, 500} {
		b := form(many(n))
		checkRead(t, b, many(n))
		for _, k := range []int{0, 1, 2, 3, 42, 43, 44, 256, 257, 499, 500, 501, 502, 512, 65536, 65536 + n, 16777215} {
			if k != n {
				checkNoScript(t, slices.Concat(b[:15], num(k), b[18:]))
			}
		}
	}
	for _, n := range []int{501, 502, 512, 1000, 65536} {
		checkNoScript(t, form(many(n)))
	}
}

// P23.2: each number at its bounds and past them, up to the greatest that three bytes have.
func TestReadOfNumbers(t *testing.T) {
	edges := []int{0, 1, 2, 3, 4, 5, 6, 7, 8, 14, 15, 99, 100, 101, 255, 256, 4095, 20000, 20001, 65534, 65535, 65536, 65537, 131071, 131072, 1 << 23, 16777214, 16777215}
	right := 0
	for kind := range kinds {
		for _, x := range ends(kind) {
			b := form(of(x, x))
			for k := range 6 + 2*9 {
				at := 3 * k
				if k >= 6+9 {
					// A Value is ahead of it.
					at += 16
				}
				for _, n := range edges {
					if checkReadPlain(t, slices.Concat(b[:at], num(n), b[at+3:])) {
						right++
					}
				}
			}
		}
	}
	if right < 1000 {
		t.Errorf("only %d were some's", right)
	}
}

// P23.2: any one bit that is turned, held against a plain answer.
func TestReadOfTurnedBits(t *testing.T) {
	for kind := range kinds {
		for _, x := range ends(kind) {
			b := form(of(x))
			for bit := range 8 * len(b) {
				turned := slices.Clone(b)
				turned[bit/8] ^= 1 << (bit % 8)
				checkReadPlain(t, turned)
			}
		}
	}
}

// P23.2: bytes of a Config or a step that can't be, where their numbers can be written, and of a Mask that there isn't.
func TestReadOfWrongOnes(t *testing.T) {
	for _, s := range wrongScripts() {
		checkNoScript(t, form(s))
	}
	for _, list := range [][]int{
		{15, 0, 0, 1, 1, 0, 0, 0, 0}, {1, 4, 0, 1, 1, 0, 0, 0, 0}, {3, 0, 8, 1, 1, 0, 0, 0, 0}, {3, 1, 0, 1, 1, 0, 0, 0, 0}, {3, 0, 0, 65537, 1, 0, 0, 0, 0},
		{3, 0, 0, 1, 0, 0, 0, 0, 0}, {3, 0, 0, 1, 2, 0, 0, 0, 0}, {3, 0, 0, 1, 1, 1, 0, 0, 0}, {6, 0, 0, 1, 1, 65536, 0, 0, 0}, {6, 0, 0, 1, 1, 65537, 0, 0, 0},
		{3, 0, 0, 1, 1, 65536, 0, 0, 0}, {6, 0, 0, 1, 65537, 0, 0, 0, 0}, {0, 0, 0, 0, 1, 0, 0, 0, 0}, {0, 0, 0, 1, 1, 0, 5, 0, 0}, {0, 0, 0, 1, 1, 0, 0, 6, 0},
		{0, 0, 0, 1, 1, 0, 0, 0, 4}, {12, 0, 0, 0, 0, 0, 0, 0, 0}, {12, 0, 0, 1, 1, 0, 0, 0, 1},
	} {
		checkNoScript(t, append(headForm(1), emptyForm(list...)...))
		checkNoScript(t, slices.Concat(headForm(2), emptyForm(12, 0, 0, 1, 1, 0, 0, 0, 0), emptyForm(list...)))
	}
	checkNoScript(t, append(headForm(1), stepForm(12, 0, 0, 1, 1, 0, 0, 0, 0)...))
	checkNoScript(t, slices.Concat(headForm(1), nums(1, 0, 0, 1, 1, 0, 0, 0, 0), eight(0), eight(1<<63)))
	checkNoScript(t, slices.Concat(headForm(1), nums(1, 0, 0, 1, 1, 0, 0, 0, 0), eight(1<<63), eight(0)))
}

// P23.2: of as many steps as can be, each other than the others, in their order.
func TestReadOfMany(t *testing.T) {
	s := many(mostSteps)
	for k := range s.Steps {
		s.Steps[k].Op.Value = complex(float64(k), float64(-k))
	}
	b := form(s)
	if len(b) != 18+43*mostSteps {
		t.Fatalf("%d bytes", len(b))
	}
	checkBoth(t, s, b)
	for _, at := range []int{0, 1, 250, 499} {
		turned := slices.Clone(b)
		turned[18+43*at+4] = 1
		checkNoScript(t, turned)
	}
}
