package script_test

import (
	"math"
	"testing"

	"cloakroom/api"
	"cloakroom/house"
	"cloakroom/script"
)

const (
	clients = 4
	lanes   = 8
	pages   = 6
	objs    = 4
	kinds   = 15
	// mostSteps is how many steps a script has at most.
	mostSteps = 500
)

// usual is the world of most tests.
func usual(clients int) api.Config {
	return api.Config{Clients: clients, Frames: 6, Many: 3, Patience: 5, Room: 3000}
}

// of is a script of the usual world.
func of(list ...api.Step) api.Script {
	return api.Script{Config: usual(2), Steps: list}
}

// minusZero is a zero with a sign, which isn't zero.
func minusZero() float64 {
	return math.Copysign(0, -1)
}

// has tells by letters what a step of each Kind has: a Client, an Op, a Lane, N, At, a Mask.
func has(kind int) string {
	return [kinds]string{"CO", "C", "", "LN", "LN", "LN", "LNAM", "LN", "C", "C", "NA", "", "", "", "N"}[kind]
}

// part is a number that steps of some Kinds have, and its bounds.
type part struct {
	name        string
	of          byte
	least, most int
	at          func(s *api.Step) *int
}

// parts are all numbers of a step but its Kind and its Mask, which can't be past its bounds.
func parts() []part {
	return []part{
		{"Client", 'C', 0, 3, func(s *api.Step) *int { return &s.Client }},
		{"Lane", 'L', 0, 7, func(s *api.Step) *int { return &s.Lane }},
		{"N", 'N', -1, 65535, func(s *api.Step) *int { return &s.N }},
		{"At", 'A', -1, 65535, func(s *api.Step) *int { return &s.At }},
		{"the Op's Kind", 'O', 0, 4, func(s *api.Step) *int { return &s.Op.Kind }},
		{"the Op's Page", 'O', 0, 5, func(s *api.Step) *int { return &s.Op.Page }},
		{"the Op's Obj", 'O', 0, 3, func(s *api.Step) *int { return &s.Op.Obj }},
	}
}

// with is a step with one number turned into another one.
func (p part) with(s api.Step, n int) api.Step {
	*p.at(&s) = n
	return s
}

// does tells whether a Kind has something.
func does(kind int, letter byte) bool {
	for k := range len(has(kind)) {
		if has(kind)[k] == letter {
			return true
		}
	}
	return false
}

// ends are the steps of a Kind with all that it has at its least, and at its greatest.
func ends(kind int) [2]api.Step {
	least, most := api.Step{Kind: kind}, api.Step{Kind: kind}
	for _, p := range parts() {
		if does(kind, p.of) {
			least, most = p.with(least, p.least), p.with(most, p.most)
		}
	}
	if does(kind, 'M') {
		most.Mask = math.MaxUint16
	}
	if does(kind, 'O') {
		least.Op.Value = complex(math.Inf(-1), -math.MaxFloat64)
		most.Op.Value = complex(math.Inf(1), math.NaN())
	}
	return [2]api.Step{least, most}
}

func checkRight(t *testing.T, s api.Script, want bool) {
	t.Helper()
	if script.Right(s) != want {
		t.Errorf("Right of %+v: not %t", s, want)
	}
}

// checkStep asks for a script of this step alone, and for one in which it stands among others.
func checkStep(t *testing.T, s api.Step, want bool) {
	t.Helper()
	checkRight(t, of(s), want)
	checkRight(t, of(api.Step{Kind: api.StepSync}, s, api.Step{Kind: api.StepTick, Client: 1}), want)
}

// config is one of a number each.
func config(n [5]int) api.Config {
	return api.Config{Clients: n[0], Frames: n[1], Many: n[2], Patience: n[3], Room: n[4]}
}

// P23.1: a Config at each of its limits and past it, the others anywhere within theirs.
func TestRightConfig(t *testing.T) {
	least, most := [5]int{1, 1, 1, 1, 0}, [5]int{4, 6, 6, 100, 20000}
	for _, others := range [][5]int{least, most, {2, 3, 4, 50, 1000}} {
		checkRight(t, api.Script{Config: config(others)}, true)
		for k := range others {
			for n, want := range map[int]bool{
				least[k]: true, most[k]: true, least[k] - 1: false, most[k] + 1: false,
				-1: false, -least[k] - 1: false, math.MinInt: false, math.MaxInt: false, 1<<32 + least[k]: false,
			} {
				one := others
				one[k] = n
				checkRight(t, api.Script{Config: config(one)}, want)
				checkRight(t, api.Script{Config: config(one), Steps: []api.Step{{Kind: api.StepSync}}}, want)
			}
		}
	}
	checkRight(t, api.Script{}, false)
	checkRight(t, api.Script{Steps: []api.Step{{}}}, false)
}

// P23.1: a Config can be where layer 21 makes a world of it, whatever is within its limits and what isn't.
func TestRightIsAWorld(t *testing.T) {
	of := [5][]int{{-1, 0, 1, 3, 4, 5}, {0, 1, 6, 7}, {0, 1, 6, 7}, {0, 1, 100, 101}, {-1, 0, 20000, 20001}}
	for _, a := range of[0] {
		for _, b := range of[1] {
			for _, c := range of[2] {
				for _, d := range of[3] {
					for _, e := range of[4] {
						x := config([5]int{a, b, c, d, e})
						_, wrong := house.New(x)
						checkRight(t, api.Script{Config: x}, wrong == api.OK)
					}
				}
			}
		}
	}
}

// many is a script of so many steps.
func many(n int) api.Script {
	s := of()
	for k := range n {
		s.Steps = append(s.Steps, api.Step{Kind: api.StepDo, Client: k % clients, Op: api.Op{Kind: k % 5, Page: k % pages, Obj: k % objs, Value: complex(float64(k), 0)}})
	}
	return s
}

// P23.1: no steps, as many as can be, and more.
func TestRightSteps(t *testing.T) {
	for n, want := range map[int]bool{0: true, 1: true, 2: true, 499: true, 500: true, 501: false, 502: false, 1000: false, 100000: false} {
		checkRight(t, many(n), want)
	}
	checkRight(t, api.Script{Config: usual(1)}, true)
	checkRight(t, api.Script{Config: usual(1), Steps: []api.Step{}}, true)
	if api.MaxSteps != mostSteps {
		t.Errorf("MaxSteps is %d", api.MaxSteps)
	}
}

// P23.1: one wrong step of many, wherever it stands.
func TestRightOneOfMany(t *testing.T) {
	s := many(mostSteps)
	for k := range s.Steps {
		was := s.Steps[k]
		s.Steps[k].Client = 4
		if script.Right(s) {
			t.Errorf("step %d is wrong", k)
		}
		s.Steps[k] = was
	}
	checkRight(t, s, true)
}

// P23.1: each Kind, with all that it has at its least and its greatest; and Kinds that there aren't.
func TestRightKinds(t *testing.T) {
	for kind := range kinds {
		for _, s := range ends(kind) {
			checkStep(t, s, true)
		}
		checkStep(t, api.Step{Kind: kind}, true)
	}
	for _, kind := range []int{-1, 15, 16, 256, math.MinInt, math.MaxInt, 1 << 32} {
		checkStep(t, api.Step{Kind: kind}, false)
	}
}

// P23.1: each number of each Kind at its bounds and past them, the others wherever they can be.
func TestRightBounds(t *testing.T) {
	for kind := range kinds {
		for _, s := range ends(kind) {
			for _, p := range parts() {
				if !does(kind, p.of) {
					continue
				}
				for _, n := range []int{p.least, p.least + 1, p.most - 1, p.most} {
					checkStep(t, p.with(s, n), true)
				}
				for _, n := range []int{p.least - 1, p.most + 1, -65535, 16777215, 1<<32 + p.most, math.MinInt, math.MaxInt} {
					checkStep(t, p.with(s, n), false)
				}
			}
		}
	}
}

// P23.1: the Mask, which only a StepSpoil has, at its edges.
func TestRightMask(t *testing.T) {
	for kind := range kinds {
		for _, s := range ends(kind) {
			for _, mask := range []uint16{0, 1, 2, 15, 255, 256, 1 << 15, 65534, 65535} {
				s.Mask = mask
				checkStep(t, s, kind == api.StepSpoil || mask == 0)
			}
		}
	}
}

// P23.1: of each Kind a number that it doesn't have, and that isn't zero, though others have such a one.
func TestRightForeign(t *testing.T) {
	for kind := range kinds {
		for _, s := range ends(kind) {
			for _, p := range parts() {
				if does(kind, p.of) {
					continue
				}
				checkStep(t, p.with(s, 0), true)
				for _, n := range []int{-1, 1, p.most, p.most + 1, math.MinInt, math.MaxInt} {
					checkStep(t, p.with(s, n), false)
				}
			}
		}
	}
}

// values are some that aren't zero, each of them different by its bits: such with a sign ahead of a zero are among them.
func values() []complex128 {
	return []complex128{
		1, -1, 1i, complex(minusZero(), 0), complex(0, minusZero()), complex(minusZero(), minusZero()), complex(math.NaN(), 0), complex(0, math.NaN()),
		complex(math.Inf(1), 0), complex(0, math.Inf(-1)), complex(math.SmallestNonzeroFloat64, 0), complex(0, -math.SmallestNonzeroFloat64), complex(math.MaxFloat64, math.MaxFloat64),
	}
}

// P23.1: the Op's Value may be any in a StepDo, whatever the Op, and is zero in all others: -0 isn't.
func TestRightValue(t *testing.T) {
	for kind := range kinds {
		for _, s := range ends(kind) {
			s.Op.Value = 0
			checkStep(t, s, true)
			for _, v := range values() {
				s.Op.Value = v
				checkStep(t, s, kind == api.StepDo)
			}
		}
	}
	for op := range 5 {
		for _, v := range values() {
			checkStep(t, api.Step{Op: api.Op{Kind: op, Page: 5, Obj: 3, Value: v}}, true)
		}
	}
}

// P23.1: a Client of a step may be one that the Config doesn't have, and so may a Lane be.
func TestRightOfOtherClients(t *testing.T) {
	for n := 1; n <= clients; n++ {
		for c := range clients {
			for _, kind := range []int{api.StepDo, api.StepTick, api.StepCrash, api.StepStart} {
				checkRight(t, api.Script{Config: usual(n), Steps: []api.Step{{Kind: kind, Client: c}}}, true)
			}
		}
		for lane := range lanes {
			checkRight(t, api.Script{Config: usual(n), Steps: []api.Step{{Kind: api.StepDeliver, Lane: lane}}}, true)
		}
	}
}
