package script_test

import (
	"bytes"
	"fmt"
	"math"
	"slices"
	"strings"
	"testing"

	"cloakroom/api"
	"cloakroom/cnum"
	"cloakroom/house"
	"cloakroom/script"
)

// plainStep tells whether a step is right: what it has is within its bounds, and all others are zero.
func plainStep(s api.Step) bool {
	if s.Kind < 0 || s.Kind >= kinds {
		return false
	}
	for _, p := range parts() {
		n := *p.at(&s)
		if does(s.Kind, p.of) && (n < p.least || n > p.most) || !does(s.Kind, p.of) && n != 0 {
			return false
		}
	}
	re, im := math.Float64bits(real(s.Op.Value)), math.Float64bits(imag(s.Op.Value))
	return (s.Mask == 0 || does(s.Kind, 'M')) && (re == 0 && im == 0 || does(s.Kind, 'O'))
}

// plainRight asks the Config's bounds itself.
func plainRight(s api.Script) bool {
	c := s.Config
	for _, n := range [][3]int{{1, c.Clients, 4}, {1, c.Frames, 6}, {1, c.Many, 6}, {1, c.Patience, 100}, {0, c.Room, 20000}, {0, len(s.Steps), mostSteps}} {
		if n[1] < n[0] || n[1] > n[2] {
			return false
		}
	}
	for _, x := range s.Steps {
		if !plainStep(x) {
			return false
		}
	}
	return true
}

// num is the three bytes of a number, as the tests make them.
func num(n int) []byte {
	return []byte{byte(n >> 16), byte(n >> 8), byte(n)}
}

func nums(list ...int) []byte {
	var b []byte
	for _, n := range list {
		b = append(b, num(n)...)
	}
	return b
}

// eight is eight bytes of bits, the highest first.
func eight(n uint64) []byte {
	var b []byte
	for k := 56; k >= 0; k -= 8 {
		b = append(b, byte(n>>k))
	}
	return b
}

// floatForm is the bytes of a part of a Value, with one form for all that is not a number.
func floatForm(f float64) []byte {
	if f != f {
		return eight(0x7FF8000000000001)
	}
	return eight(math.Float64bits(f))
}

// form is a script's bytes as the chapter tells it, be it right or not.
func form(s api.Script) []byte {
	c := s.Config
	b := nums(c.Clients, c.Frames, c.Many, c.Patience, c.Room, len(s.Steps))
	for _, x := range s.Steps {
		b = append(b, nums(x.Kind, x.Client, x.Lane, x.N+1, x.At+1, int(x.Mask), x.Op.Kind, x.Op.Page, x.Op.Obj)...)
		b = append(append(b, floatForm(real(x.Op.Value))...), floatForm(imag(x.Op.Value))...)
	}
	return b
}

// plainRead takes what the bytes seem to say without any look at it, and then makes them again.
func plainRead(b []byte) (api.Script, bool) {
	at := func(k int) int { return int(b[k])<<16 | int(b[k+1])<<8 | int(b[k+2]) }
	float := func(k int) float64 {
		var n uint64
		for _, x := range b[k : k+8] {
			n = n<<8 | uint64(x)
		}
		return math.Float64frombits(n)
	}
	if len(b) < 18 {
		return api.Script{}, false
	}
	s := api.Script{Config: api.Config{Clients: at(0), Frames: at(3), Many: at(6), Patience: at(9), Room: at(12)}}
	for k := 18; k+43 <= len(b); k += 43 {
		o := api.Op{Kind: at(k + 18), Page: at(k + 21), Obj: at(k + 24), Value: complex(float(k+27), float(k+35))}
		s.Steps = append(s.Steps, api.Step{Kind: at(k), Client: at(k + 3), Lane: at(k + 6), N: at(k+9) - 1, At: at(k+12) - 1, Mask: uint16(at(k + 15)), Op: o})
	}
	if !plainRight(s) || !bytes.Equal(form(s), b) {
		return api.Script{}, false
	}
	return s, true
}

// text tells a script, or what it leads to, by its values: fmt tells -0 from 0, and nothing of what is not a number but that.
func text(x any) string {
	return fmt.Sprintf("%+v", x)
}

// sameScript tells whether two are one.
func sameScript(a, b api.Script) bool {
	return a.Config == b.Config && slices.EqualFunc(a.Steps, b.Steps, func(x, y api.Step) bool {
		same := cnum.Same(x.Op.Value, y.Op.Value)
		x.Op.Value, y.Op.Value = 0, 0
		return same && x == y
	})
}

// plainRun steps a world, and looks at it in the end.
func plainRun(t *testing.T, s api.Script) api.Trace {
	t.Helper()
	h, e := house.New(s.Config)
	if e != api.OK {
		t.Fatalf("New %+v: %d", s.Config, e)
	}
	var x api.Trace
	for _, k := range s.Steps {
		x.Done = append(x.Done, h.Step(k))
	}
	x.Deals, x.Logged = h.Deals(), h.Logged()
	return x
}

func checkNoTrace(t *testing.T, what string, x api.Trace, e api.Errno) {
	t.Helper()
	if e != api.ErrScript || len(x.Done) > 0 || len(x.Deals) > 0 || len(x.Logged) > 0 {
		t.Errorf("%s: %+v, %d", what, x, e)
	}
}

func checkTrace(t *testing.T, what string, x api.Trace, e api.Errno, want api.Trace) {
	t.Helper()
	if e != api.OK || text(x) != text(want) {
		t.Errorf("%s: %d and\n%+v, not\n%+v", what, e, x, want)
	}
}

// checkAll holds what all calls say of a script against the plain answers, and tells whether it is right.
func checkAll(t *testing.T, s api.Script) bool {
	t.Helper()
	right := plainRight(s)
	checkRight(t, s, right)
	b, e := script.Bytes(s)
	x, wrong := script.Run(s)
	if !right {
		if e != api.ErrScript || len(b) > 0 {
			t.Errorf("Bytes of %+v: %x, %d", s, b, e)
		}
		checkNoTrace(t, "Run of "+text(s), x, wrong)
		return false
	}
	if e != api.OK || !bytes.Equal(b, form(s)) {
		t.Errorf("Bytes of %+v: %x, %d, not %x", s, b, e, form(s))
	}
	want := plainRun(t, s)
	checkTrace(t, "Run of "+text(s), x, wrong, want)
	x, wrong = script.Play(b)
	checkTrace(t, "Play of "+text(s), x, wrong, want)
	checkReadPlain(t, b)
	return true
}

// checkReadPlain holds what bytes are read as, and what these are again, against the plain answer, and tells whether they are some's.
func checkReadPlain(t *testing.T, b []byte) bool {
	t.Helper()
	want, right := plainRead(b)
	s, e := script.Read(b)
	if !right {
		if e != api.ErrScript || s.Config != (api.Config{}) || len(s.Steps) > 0 {
			t.Errorf("Read of %x: %+v, %d", b, s, e)
		}
		return false
	}
	if e != api.OK || !sameScript(s, want) {
		t.Errorf("Read of %x: %+v, %d, not %+v", b, s, e, want)
	}
	if again, e := script.Bytes(s); e != api.OK || !bytes.Equal(again, b) {
		t.Errorf("Bytes of Read of %x: %x, %d", b, again, e)
	}
	return true
}

// noise is a row of numbers that hangs on where it begins alone.
type noise uint64

func (n *noise) below(many int) int {
	*n ^= *n << 13
	*n ^= *n >> 7
	*n ^= *n << 17
	return int(uint64(*n) % uint64(many))
}

func (n *noise) of(list ...int) int {
	return list[n.below(len(list))]
}

// value is one of few, mostly.
func (n *noise) value() complex128 {
	switch n.below(12) {
	case 0:
		return complex(math.Float64frombits(0x7FF8000000000000+uint64(n.below(5))), minusZero())
	case 1:
		return complex(math.Inf(1-2*n.below(2)), math.Float64frombits(0xFFF8000000000000+uint64(n.below(5))))
	}
	return complex(float64(n.below(6)), float64(n.below(2)))
}

// config is one that can be.
func (n *noise) config() api.Config {
	return config([5]int{1 + n.below(4), 1 + n.below(6), 1 + n.below(6), n.of(2, 10, 30, 100), n.of(20000, 20000, 2000, 300)})
}

// step is one that does something in most cases. The rougher, the more is lost, falls or crashes.
func (n *noise) step(h *house.House, many, rough int) api.Step {
	c := n.below(many)
	switch at := n.below(100); {
	case at < rough:
		return n.any(h)
	case at < 50:
		return n.delivery(h)
	case at < 52:
		return api.Step{Kind: n.of(api.StepHostTick, api.StepSync)}
	case !h.Up(c):
		return api.Step{Kind: api.StepStart, Client: c}
	case !h.HostUp():
		return api.Step{Kind: api.StepRise}
	case h.Waits(c) && at < 60:
		return api.Step{Kind: api.StepSync}
	case (!h.Live(c) || h.Waits(c)) && at < 95:
		return n.delivery(h)
	case !h.Live(c) || h.Waits(c):
		return api.Step{Kind: api.StepTick, Client: c}
	}
	o := api.Op{Kind: n.of(1, 1, 2, 2, 3, 4), Page: n.below(3), Obj: n.below(objs), Value: n.value()}
	if !open(h, c) {
		o.Kind = api.OpBegin
	}
	return api.Step{Client: c, Op: o}
}

// open tells whether a client has a transaction that is open.
func open(h *house.House, client int) bool {
	return slices.ContainsFunc(h.Deals(), func(d api.Deal) bool { return d.Client == client && d.State == api.DealOpen })
}

// delivery is that of the first frame of a lane that has one, and seldom of another one.
func (n *noise) delivery(h *house.House) api.Step {
	s := api.Step{Kind: api.StepDeliver, Lane: n.below(lanes)}
	for k := 0; k < lanes && h.Len(s.Lane) == 0; k++ {
		s.Lane = (s.Lane + 1) % lanes
	}
	if n.below(10) == 0 {
		s.N = n.below(1 + h.Len(s.Lane))
	}
	return s
}

// any is a step of any Kind, with anything that it may have, mostly what does something.
func (n *noise) any(h *house.House) api.Step {
	s := api.Step{Kind: n.below(kinds)}
	all := n.delivery(h)
	all.Client, all.At, all.Mask = n.below(clients), n.of(-1, 0, 1, 7, 63, 150, 65535), uint16(n.of(0, 1, 3, 65535))
	all.Op = api.Op{Kind: n.below(5), Page: n.below(pages), Obj: n.below(objs), Value: n.value()}
	if n.below(8) == 0 || s.Kind == api.StepRoom {
		all.N = n.of(-1, 0, 40, 300, 20000, 65535)
	}
	for _, p := range parts() {
		if does(s.Kind, p.of) {
			s = p.with(s, *p.at(&all))
		}
	}
	if does(s.Kind, 'O') {
		s.Op = all.Op
	}
	if does(s.Kind, 'M') {
		s.Mask = all.Mask
	}
	return s
}

// script is one that is right, of so many steps. While it is made, a world goes with it, so that much happens.
func (n *noise) script(many int) api.Script {
	s := api.Script{Config: n.config()}
	h, _ := house.New(s.Config)
	rough := n.below(12)
	for range many {
		x := n.step(h, s.Config.Clients, rough)
		h.Step(x)
		s.Steps = append(s.Steps, x)
	}
	return s
}

// turned is a script with one thing turned: it may be right still, or not.
func (n *noise) turned(s api.Script) api.Script {
	s.Steps = slices.Clone(s.Steps)
	if len(s.Steps) == 0 || n.below(8) == 0 {
		c := &s.Config
		*[]*int{&c.Clients, &c.Frames, &c.Many, &c.Patience, &c.Room}[n.below(5)] = n.of(-1, 0, 1, 4, 5, 6, 7, 100, 101, 20000, 20001)
		return s
	}
	x := &s.Steps[n.below(len(s.Steps))]
	switch n.below(10) {
	case 0:
		x.Kind = n.of(-1, n.below(kinds), n.below(kinds), kinds)
	case 1:
		x.Mask = uint16(n.of(0, 1, 65535))
	case 2:
		x.Op.Value = values()[n.below(len(values()))]
	default:
		p := parts()[n.below(len(parts()))]
		*p.at(x) = n.of(p.least-1, p.least, p.most, p.most+1, 0)
	}
	return s
}

// P23.1 to P23.3: long scripts, right ones and such with one thing turned, held against plain answers.
func TestLongScripts(t *testing.T) {
	t.Parallel()
	n := noise(88172645463325252)
	var states [4]int
	var kind, did [kinds]int
	logged, right, wrong := 0, 0, 0
	for round := range 150 {
		s := n.script(n.of(20, 100, 300, 499, mostSteps))
		if !checkAll(t, s) || t.Failed() {
			t.Fatalf("round %d: it isn't right, or not read, made or run right", round)
		}
		for range 12 {
			if checkAll(t, n.turned(s)) {
				right++
			} else {
				wrong++
			}
		}
		x, _ := script.Run(s)
		for k, done := range x.Done {
			kind[s.Steps[k].Kind]++
			if done {
				did[s.Steps[k].Kind]++
			}
		}
		for _, d := range x.Deals {
			states[d.State]++
		}
		logged += len(x.Logged)
	}
	if right < 100 || wrong < 100 || slices.Min(states[:]) < 20 || slices.Min(did[:]) < 20 || slices.Min(kind[:]) < 50 || logged < 200 {
		t.Errorf("too little of some kind: %d right, %d wrong, %v %v %v, %d logged", right, wrong, states, kind, did, logged)
	}
}

// P23.2: bytes with one or several of them turned, taken out or put in, held against plain answers.
func TestTurnedBytes(t *testing.T) {
	t.Parallel()
	n := noise(362436069)
	right, wrong := 0, 0
	for range 4000 {
		b := form(n.script(n.below(6)))
		for range 1 + n.below(3) {
			at := n.below(len(b))
			switch n.below(8) {
			case 0:
				b = slices.Delete(b, at, min(at+n.of(1, 3, 43), len(b)))
			case 1:
				b = slices.Insert(b, at, b[at:min(at+n.of(1, 3, 43), len(b))]...)
			case 2:
				b[at] ^= 1 << n.below(8)
			default:
				b[at] = byte(n.of(0, 1, 2, 3, 4, 127, 128, 255))
			}
			if len(b) == 0 {
				break
			}
		}
		if checkReadPlain(t, b) {
			right++
		} else {
			wrong++
		}
	}
	if right < 200 || wrong < 1000 {
		t.Errorf("%d were some's, and %d weren't", right, wrong)
	}
}

// P23.1: all that can come of a few numbers for all that a step has, held against a plain answer.
func TestStepsInFull(t *testing.T) {
	t.Parallel()
	var right [kinds + 2]int
	var s api.Step
	var each func(list []part, then func())
	each = func(list []part, then func()) {
		if len(list) == 0 {
			then()
			return
		}
		p := list[0]
		for _, n := range []int{p.least - 1, 0, p.most} {
			*p.at(&s) = n
			each(list[1:], then)
		}
	}
	for kind := -1; kind <= kinds; kind++ {
		s = api.Step{Kind: kind}
		each(parts(), func() {
			for _, v := range []complex128{0, complex(0, minusZero()), 1} {
				for _, mask := range []uint16{0, 65535} {
					s.Op.Value, s.Mask = v, mask
					want := plainStep(s)
					if script.Right(of(s)) != want {
						t.Fatalf("Right of %+v: not %t", s, want)
					}
					if want {
						right[kind+1]++
					}
				}
			}
		})
	}
	// Two numbers each may be what a Kind has, and for a Mask two, for a Value three: for all others there is but one.
	for kind := range kinds {
		want := 1
		for _, p := range parts() {
			if does(kind, p.of) {
				want *= 2
			}
		}
		want *= 1 + strings.Count(has(kind), "M") + 2*strings.Count(has(kind), "O")
		if right[kind+1] != want {
			t.Errorf("Kind %d: %d are right, not %d", kind, right[kind+1], want)
		}
	}
}
