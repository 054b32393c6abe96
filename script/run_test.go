package script_test

import (
	"math"
	"slices"
	"testing"

	"cloakroom/api"
	"cloakroom/house"
	"cloakroom/past"
	"cloakroom/script"
)

// ask is a step in which a client is asked something, asks such with all that is on both of its lanes delivered behind it.
func ask(client, kind, page, obj int, v complex128) api.Step {
	return api.Step{Client: client, Op: api.Op{Kind: kind, Page: page, Obj: obj, Value: v}}
}

func asks(client, kind, page, obj int, v complex128) []api.Step {
	return append([]api.Step{ask(client, kind, page, obj, v)}, calm(client)...)
}

// calm is steps enough to deliver what a few messages lead to.
func calm(client int) []api.Step {
	var list []api.Step
	for range 4 {
		list = append(list, api.Step{Kind: api.StepDeliver, Lane: 2 * client}, api.Step{Kind: api.StepDeliver, Lane: 2*client + 1})
	}
	return list
}

// meets gives a client its session.
func meets(client int) []api.Step {
	return append([]api.Step{{Kind: api.StepTick, Client: client}}, calm(client)...)
}

// commits is a transaction of a client that reads an object, and writes it.
func commits(client, page, obj int, v complex128) []api.Step {
	return slices.Concat(asks(client, api.OpBegin, 0, 0, 0), asks(client, api.OpRead, page, obj, 0), asks(client, api.OpWrite, page, obj, v), asks(client, api.OpCommit, 0, 0, 0))
}

func synced(client int) []api.Step {
	return append([]api.Step{{Kind: api.StepSync}}, calm(client)...)
}

// checkRun holds what a script leads to against this, and against a world that is stepped beside.
func checkRun(t *testing.T, s api.Script, want api.Trace) {
	t.Helper()
	x, e := script.Run(s)
	checkTrace(t, "Run", x, e, want)
	checkTrace(t, "Run", x, e, plainRun(t, s))
	x, e = script.Play(form(s))
	checkTrace(t, "Play", x, e, want)
}

// P23.3: the chapter's example: nothing done, no transactions, nothing logged.
func TestRunOfNothing(t *testing.T) {
	for n := 1; n <= clients; n++ {
		checkRun(t, api.Script{Config: usual(n)}, api.Trace{})
		checkRun(t, api.Script{Config: usual(n), Steps: []api.Step{}}, api.Trace{})
	}
}

// P23.3: a client reads, writes and commits, and is told so: each step's answer, the Deal, and what is LOGGED.
func TestRunOfATransaction(t *testing.T) {
	up, down := api.Step{Kind: api.StepDeliver}, api.Step{Kind: api.StepDeliver, Lane: 1}
	steps := []api.Step{
		ask(0, api.OpBegin, 0, 0, 0), {Kind: api.StepTick}, up, up, down,
		ask(0, api.OpBegin, 0, 0, 0), ask(0, api.OpRead, 4, 2, 0), up, down, ask(0, api.OpBegin, 0, 0, 0),
		ask(0, api.OpWrite, 4, 2, complex(3, -1)), up, up, down, down,
		ask(0, api.OpCommit, 0, 0, 0), up, up, {Kind: api.StepSync}, down, down, down, down,
	}
	checkRun(t, api.Script{Config: usual(1), Steps: steps}, api.Trace{
		Done: []bool{
			false, true, true, false, true,
			true, true, true, true, false,
			true, true, true, true, true,
			true, true, true, true, true, true, true, false,
		},
		Deals:  []api.Deal{{Epoch: 1, Txn: 1, Began: 6, Ended: 22, State: api.DealDone, Deeds: []api.Deed{{Page: 4, Obj: 2}, {Write: true, Page: 4, Obj: 2, Value: complex(3, -1)}}}},
		Logged: []api.Batch{{LSN: 1, Epoch: 1, Txn: 1, Puts: []api.Put{{Page: 4, Obj: 2, Value: complex(3, -1)}}}},
	})
}

// P23.3: the Config's numbers are those of the world: how many clients, how much room, how many silent ticks.
func TestRunOfConfigs(t *testing.T) {
	for n := 1; n <= clients; n++ {
		var s api.Script
		s.Config = usual(n)
		var want api.Trace
		for c := range clients {
			s.Steps = append(s.Steps, api.Step{Kind: api.StepCrash, Client: c})
			want.Done = append(want.Done, c < n)
		}
		checkRun(t, s, want)
	}
	list := slices.Concat(meets(0), commits(0, 1, 1, 5), synced(0))
	for _, room := range []int{0, 10, 300, 20000} {
		s := api.Script{Config: config([5]int{1, 1, 1, 5, room}), Steps: list}
		x, e := script.Run(s)
		checkTrace(t, "Run", x, e, plainRun(t, s))
		state := api.DealFailed
		if room >= 300 {
			state = api.DealDone
		}
		if len(x.Deals) != 1 || x.Deals[0].State != state || len(x.Logged) != 2-state && room >= 300 || len(x.Logged) > 0 && room < 300 {
			t.Errorf("with room %d: %+v", room, x)
		}
	}
	// Client 0 falls with an object that it owns: client 1 gets it when that session is over.
	owned := slices.Concat(meets(0), meets(1), asks(0, api.OpBegin, 0, 0, 0), asks(0, api.OpWrite, 0, 0, 1), asks(1, api.OpBegin, 0, 0, 0))
	owned = append(owned, api.Step{Kind: api.StepCrash})
	for _, patience := range []int{1, 3, 9} {
		for ticks := range 12 {
			s := api.Script{Config: config([5]int{2, 6, 6, patience, 2000}), Steps: owned}
			for range ticks {
				s.Steps = slices.Concat(s.Steps, meets(1), []api.Step{{Kind: api.StepHostTick}}, calm(1))
			}
			s.Steps = append(s.Steps, asks(1, api.OpRead, 0, 0, 0)...)
			x, e := script.Run(s)
			checkTrace(t, "Run", x, e, plainRun(t, s))
			if read := len(x.Deals) == 2 && len(x.Deals[1].Deeds) == 1; read != (ticks > patience) {
				t.Errorf("behind %d ticks, with patience %d: %+v", ticks, patience, x.Deals)
			}
		}
	}
}

// middle is a step of a Kind with what it has somewhere between its bounds.
func middle(kind int) api.Step {
	s, all := api.Step{Kind: kind}, api.Step{Client: 1, Lane: 2, At: 9, Op: api.Op{Kind: api.OpRead, Page: 1, Obj: 1}}
	for _, p := range parts() {
		if does(kind, p.of) {
			s = p.with(s, *p.at(&all))
		}
	}
	if does(kind, 'M') {
		s.Mask = 5
	}
	return s
}

// P23.3: one step of each Kind, where it does something and where it can't, each with all that it has anywhere within its bounds,
// in worlds in which much is going on.
func TestRunOfEachKind(t *testing.T) {
	busy := slices.Concat(meets(0), meets(1), commits(0, 1, 1, 5), synced(0), asks(0, api.OpBegin, 0, 0, 0), asks(0, api.OpWrite, 2, 2, 7),
		asks(1, api.OpBegin, 0, 0, 0), []api.Step{ask(1, api.OpRead, 2, 2, 0), {Kind: api.StepTick}, {Kind: api.StepHostTick}, ask(0, api.OpCommit, 0, 0, 0)})
	gone := append(slices.Clone(busy), api.Step{Kind: api.StepCrash}, api.Step{Kind: api.StepFall, N: 3, At: 5})
	var did, didn [kinds]int
	for _, ahead := range [][]api.Step{nil, slices.Concat(meets(0), meets(1)), busy, gone} {
		for kind := range kinds {
			list := ends(kind)
			for _, x := range append(list[:], api.Step{Kind: kind}, middle(kind)) {
				s := of(slices.Concat(ahead, []api.Step{x}, meets(0), meets(1), synced(0))...)
				want := plainRun(t, s)
				checkRun(t, s, want)
				if want.Done[len(ahead)] {
					did[kind]++
				} else {
					didn[kind]++
				}
			}
		}
	}
	didn[api.StepRoom]++
	if slices.Min(did[:]) == 0 || slices.Min(didn[:]) == 0 {
		t.Errorf("some Kind was always the same: %v, %v", did, didn)
	}
}

// P23.3: what was LOGGED is that of the end: a commit that a fall took isn't, and one that was safe is, though the server isn't up.
func TestRunOfAFall(t *testing.T) {
	ahead := slices.Concat(meets(0), commits(0, 1, 1, 5), synced(0), commits(0, 1, 1, 6))
	for _, keep := range []int{-1, 0, 41, 42, 65535} {
		for _, rises := range []bool{false, true} {
			s := api.Script{Config: usual(1), Steps: append(slices.Clone(ahead), api.Step{Kind: api.StepFall, N: keep})}
			many := 2
			if rises {
				s.Steps = slices.Concat(s.Steps, []api.Step{{Kind: api.StepRise}}, meets(0))
				many = 1
				if keep >= 42 {
					many = 2
				}
			}
			x, e := script.Run(s)
			checkTrace(t, "Run", x, e, plainRun(t, s))
			if len(x.Logged) != many || len(x.Deals) != 2 || x.Deals[0].State != api.DealDone || (x.Deals[1].State == api.DealLost) != rises {
				t.Errorf("keeping %d: %+v", keep, x)
			}
		}
	}
}

// P23.3: of a script that isn't right nothing is run.
func TestRunOfWrongOnes(t *testing.T) {
	for _, s := range wrongScripts() {
		x, e := script.Run(s)
		checkNoTrace(t, "Run of "+text(s), x, e)
		x, e = script.Play(form(s))
		checkNoTrace(t, "Play of "+text(s), x, e)
	}
	s := many(mostSteps)
	s.Steps[mostSteps-1].N = 1
	for _, s := range append(farScripts(), s) {
		x, e := script.Run(s)
		checkNoTrace(t, "Run of "+text(s), x, e)
	}
}

// P23.3: Play of bytes that are none's: Read's error.
func TestPlayOfNone(t *testing.T) {
	b := form(of(api.Step{Kind: api.StepTick}, ask(0, api.OpBegin, 0, 0, complex(math.NaN(), 1))))
	x, e := script.Play(b)
	checkTrace(t, "Play", x, e, api.Trace{Done: []bool{true, false}})
	for k := range b {
		x, e := script.Play(b[:k])
		checkNoTrace(t, "Play of too few bytes", x, e)
	}
	for _, b := range [][]byte{nil, {}, append(slices.Clone(b), 0), append(headForm(1), emptyForm(15, 0, 0, 1, 1, 0, 0, 0, 0)...), headForm(1), headForm(501), headForm(16777215), make([]byte, 18)} {
		x, e := script.Play(b)
		checkNoTrace(t, "Play of "+text(b), x, e)
	}
}

// P23.3: as many steps as can be, all of which do something or none.
func TestRunOfMany(t *testing.T) {
	for _, kind := range []int{api.StepHostTick, api.StepRise} {
		s := api.Script{Config: usual(1)}
		var want api.Trace
		for range mostSteps {
			s.Steps = append(s.Steps, api.Step{Kind: kind})
			want.Done = append(want.Done, kind == api.StepHostTick)
		}
		checkRun(t, s, want)
	}
}

// What long scripts lead to is Serial, Told and in Order, as a whole.
func TestRunsAreSerial(t *testing.T) {
	t.Parallel()
	n := noise(2463534242)
	done := 0
	for range 150 {
		s := n.script(mostSteps)
		x, e := script.Run(s)
		if e != api.OK || !past.Serial(x.Deals, x.Logged) || !past.Told(x.Deals, x.Logged) || !past.Order(x.Deals, x.Logged) {
			t.Fatalf("%+v leads to %+v", s, x)
		}
		for _, d := range x.Deals {
			if d.State == api.DealDone {
				done++
			}
		}
	}
	if done < 200 {
		t.Errorf("only %d are Done", done)
	}
}

// A world that is stepped beside isn't touched by a Run, nor is a Run by it.
func TestRunsAreApart(t *testing.T) {
	s := of(slices.Concat(meets(0), commits(0, 1, 1, 5), synced(0))...)
	want := plainRun(t, s)
	h, _ := house.New(s.Config)
	for k, x := range s.Steps {
		got, e := script.Run(s)
		checkTrace(t, "Run", got, e, want)
		if h.Step(x) != want.Done[k] {
			t.Errorf("step %d does something else", k)
		}
	}
	if text(h.Deals()) != text(want.Deals) || text(h.Logged()) != text(want.Logged) {
		t.Errorf("%+v %+v", h.Deals(), h.Logged())
	}
}
