package script_test

import (
	"bytes"
	"math"
	"slices"
	"testing"

	"cloakroom/api"
	"cloakroom/script"
)

// shows is all that calls say of a script and its bytes.
func shows(s api.Script) string {
	b, e := script.Bytes(s)
	x, wrong := script.Run(s)
	read, none := script.Read(b)
	played, noneToo := script.Play(b)
	return text([]any{script.Right(s), b, e, x, wrong, read, none, played, noneToo})
}

// someScripts are right ones and others, in all of which several things happen.
func someScripts() []api.Script {
	n := noise(123456789)
	list := []api.Script{of(), many(40), many(501)}
	for range 20 {
		s := n.script(300)
		list = append(list, s, n.turned(s))
	}
	return list
}

// P2: what is said hangs on what is handed in alone, whatever was asked ahead of it, and wherever it lies.
func TestAskedAgain(t *testing.T) {
	list := someScripts()
	var want []string
	for _, s := range list {
		want = append(want, shows(s))
	}
	for k := len(list) - 1; k >= 0; k-- {
		if again := shows(list[k]); again != want[k] {
			t.Errorf("asked again, it says %s, not %s", again, want[k])
		}
		copied := api.Script{Config: list[k].Config, Steps: slices.Clone(list[k].Steps)}
		if again := shows(copied); again != want[k] {
			t.Errorf("of a copy it says %s, not %s", again, want[k])
		}
	}
}

// P2: all that is not a number is one: whatever its bits are, it leads to the same.
func TestNotNumbersAreOne(t *testing.T) {
	s := of(slices.Concat(meets(0), commits(0, 1, 1, 0), synced(0), asks(0, api.OpBegin, 0, 0, 0), asks(0, api.OpRead, 1, 1, 0))...)
	var want string
	for _, bits := range append(notNumbers(), 0x7FF8000000000001) {
		for k := range s.Steps {
			if s.Steps[k].Op.Kind == api.OpWrite {
				s.Steps[k].Op.Value = complex(math.Float64frombits(bits), math.Float64frombits(bits))
			}
		}
		x, e := script.Run(s)
		if e != api.OK || len(x.Logged) != 1 || len(x.Deals) != 2 || len(x.Deals[1].Deeds) != 1 {
			t.Fatalf("%+v, %d", x, e)
		}
		if want == "" {
			want = shows(s)
		}
		if now := shows(s); now != want {
			t.Errorf("with the bits %x it says %s, not %s", bits, now, want)
		}
	}
}

// What is handed in is not changed, spare room included, and that room says nothing.
func TestArgumentsStayAsTheyAre(t *testing.T) {
	for _, s := range someScripts() {
		want := shows(s)
		wide := append(slices.Clone(s.Steps), api.Step{Kind: 15}, api.Step{Kind: api.StepTick, Client: 3})
		before := text(wide)
		if got := shows(api.Script{Config: s.Config, Steps: wide[:len(s.Steps)]}); got != want {
			t.Errorf("with spare room it says %s, not %s", got, want)
		}
		if now := text(wide); now != before {
			t.Errorf("%s has become %s", before, now)
		}
		b := form(s)
		wideBytes := append(slices.Clone(b), 1, 2, 3)
		read, e := script.Read(wideBytes[:len(b)])
		again, none := script.Read(b)
		x, wrong := script.Play(wideBytes[:len(b)])
		played, noneToo := script.Play(b)
		if e != none || !sameScript(read, again) || wrong != noneToo || text(x) != text(played) {
			t.Errorf("with spare room %x is read as %+v, %d, and leads to %+v, %d", b, read, e, x, wrong)
		}
		if !bytes.Equal(wideBytes, append(b, 1, 2, 3)) {
			t.Errorf("bytes were written over: %x", wideBytes)
		}
	}
}

// What is handed in is not kept: written over, it changes nothing that was told.
func TestArgumentsAreNotKept(t *testing.T) {
	for _, s := range someScripts() {
		mine := api.Script{Config: s.Config, Steps: slices.Clone(s.Steps)}
		x, _ := script.Run(mine)
		b, _ := script.Bytes(mine)
		mineBytes := form(mine)
		read, _ := script.Read(mineBytes)
		played, _ := script.Play(mineBytes)
		all := func() string { return text([]any{x, b, read, played}) }
		before := all()
		for k := range mine.Steps {
			mine.Steps[k] = api.Step{Kind: 9, Client: 99, Op: api.Op{Value: 99}}
		}
		for k := range mineBytes {
			mineBytes[k] = 99
		}
		if now := all(); now != before {
			t.Errorf("%s has become %s", before, now)
		}
	}
}

// spoilsTrace writes over all that a script led to, deep inside and spare room too.
func spoilsTrace(x api.Trace) {
	done, deals, logged := x.Done[:cap(x.Done)], x.Deals[:cap(x.Deals)], x.Logged[:cap(x.Logged)]
	for k := range done {
		done[k] = k%3 == 0
	}
	for k := range deals {
		deeds := deals[k].Deeds[:cap(deals[k].Deeds)]
		for i := range deeds {
			deeds[i] = api.Deed{Write: true, Page: 9, Obj: 9, Value: 99}
		}
		deals[k] = api.Deal{Client: 9, Epoch: 9, Txn: 9, Began: 9, Ended: 9, State: 9}
	}
	for k := range logged {
		puts := logged[k].Puts[:cap(logged[k].Puts)]
		for i := range puts {
			puts[i] = api.Put{Page: 9, Obj: 9, Value: 99}
		}
		logged[k] = api.Batch{LSN: 9, Client: 9, Epoch: 9, Txn: 9}
	}
}

// An answer is new memory: written over, deep inside and spare room too, it changes neither what was handed in nor another answer.
func TestAnswersAreNewMemory(t *testing.T) {
	for _, s := range someScripts() {
		before, want, b := text(s), shows(s), form(s)
		x, _ := script.Run(s)
		kept, _ := script.Run(s)
		keptText := text(kept)
		spoilsTrace(x)
		x, _ = script.Play(b)
		spoilsTrace(x)
		read, _ := script.Read(b)
		again, _ := script.Read(b)
		againText := text(again)
		list := read.Steps[:cap(read.Steps)]
		for k := range list {
			list[k] = api.Step{Kind: 99}
		}
		made, _ := script.Bytes(s)
		made = made[:cap(made)]
		for k := range made {
			made[k] = 99
		}
		if text(s) != before || !bytes.Equal(b, form(s)) || text(kept) != keptText || text(again) != againText || shows(s) != want {
			t.Errorf("written over, an answer has changed what was handed in, or another answer: %s", before)
		}
	}
}

// No two lists of one answer share memory, spare room too.
func TestListsOfOneAnswerAreApart(t *testing.T) {
	for _, s := range someScripts() {
		want, _ := script.Run(s)
		for k := range max(len(want.Deals), len(want.Logged)) {
			x, _ := script.Run(s)
			deals, logged := x.Deals[min(k, len(x.Deals)):min(k+1, len(x.Deals))], x.Logged[min(k, len(x.Logged)):min(k+1, len(x.Logged))]
			spoilsTrace(api.Trace{Deals: slices.Clip(deals), Logged: slices.Clip(logged)})
			for i := range x.Deals {
				if i != k && text(x.Deals[i]) != text(want.Deals[i]) {
					t.Errorf("Deal %d has changed with number %d", i, k)
				}
			}
			for i := range x.Logged {
				if i != k && text(x.Logged[i]) != text(want.Logged[i]) {
					t.Errorf("commit %d has changed with number %d", i, k)
				}
			}
			if !slices.Equal(x.Done, want.Done) {
				t.Errorf("what was done has changed with number %d", k)
			}
		}
	}
}

// numbers are those that can be anything of a script, and those that can't.
func numbers() []int {
	return []int{math.MinInt, math.MinInt + 1, -1 << 32, -65536, -2, -1, 0, 1, 3, 4, 5, 6, 7, 8, 14, 15, 100, 101, 500, 20000, 65535, 65536, 16777215, 16777216, 1<<32 + 1, math.MaxInt - 1, math.MaxInt}
}

// use makes all calls: none may panic.
func use(s api.Script) {
	script.Right(s)
	script.Run(s)
	b, _ := script.Bytes(s)
	for _, b := range [][]byte{b, form(s)} {
		script.Read(b)
		script.Play(b)
	}
}

// P1: a Config and steps of any numbers.
func TestAllNumbers(t *testing.T) {
	t.Parallel()
	for _, a := range numbers() {
		for _, b := range numbers() {
			use(api.Script{Config: config([5]int{a, b, a, b, a})})
			use(api.Script{Config: config([5]int{1, a, 1, b, b}), Steps: []api.Step{{Kind: api.StepTick}}})
			for kind := -1; kind <= kinds; kind++ {
				s := api.Step{Kind: kind, Client: a, Lane: b, N: a, At: b, Mask: uint16(a), Op: api.Op{Kind: b, Page: a, Obj: b, Value: complex(math.NaN(), math.Inf(-1))}}
				use(of(s))
				foreign, there := api.Step{Kind: kind}, kind >= 0 && kind < kinds
				for _, p := range parts() {
					if there && does(kind, p.of) {
						foreign = p.with(foreign, *p.at(&s))
					}
				}
				use(of(foreign, api.Step{Kind: api.StepTick}, foreign, s))
				use(of(api.Step{Kind: a, N: b}))
			}
		}
	}
}

// P1: any bytes, short ones and long ones, and such that begin like some's.
func TestAllBytes(t *testing.T) {
	t.Parallel()
	n := noise(521288629)
	for round := range 3000 {
		b := make([]byte, n.below(200))
		for k := range b {
			b[k] = byte(n.below(1 + round%256))
		}
		checkReadPlain(t, b)
		script.Play(b)
		b = append(headForm(n.below(6)), b...)
		checkReadPlain(t, b)
		script.Play(b)
	}
	long := make([]byte, 18+43*200000)
	copy(long, headForm(200000))
	checkNoScript(t, long)
	copy(long, headForm(500))
	checkNoScript(t, long)
	checkNoScript(t, slices.Concat(long, long))
}

// P1: right steps of any Kind with anything that they may have, in any order, end too, as many as can be.
func TestAllSteps(t *testing.T) {
	t.Parallel()
	n := noise(1099511628211)
	for range 100 {
		s := api.Script{Config: n.config()}
		for range mostSteps {
			x := ends(n.below(kinds))[n.below(2)]
			for _, p := range parts() {
				if does(x.Kind, p.of) && n.below(4) > 0 {
					x = p.with(x, max(p.least, min(p.most, n.of(-1, 0, 0, 0, 1, 2, 3, 300, 65535))))
				}
			}
			s.Steps = append(s.Steps, x)
		}
		if !checkAll(t, s) {
			t.Fatalf("%+v isn't right", s)
		}
	}
}
