package agent_test

import (
	"math"
	"slices"
	"testing"

	"cloakroom/agent"
	"cloakroom/api"
	"cloakroom/msg"
)

// wrong are numbers that are no kind, page or object, where least is the first one above the greatest: those about the
// edges of 64 bits, and such as have the lowest bits of those that can be.
func wrong(least int) []int {
	return []int{math.MinInt, math.MinInt + 1, math.MinInt + 3, math.MinInt32, -1<<32 + 1, -256, -64, -16, -15, -8, -2, -1, least, least + 1, 2*least + 1, 63, 64, 65,
		255, 256, 257, 1 << 31, 1 << 32, 1<<32 + 1, 1<<32 + 3, 1<<62 + 1, math.MaxInt - 1, math.MaxInt}
}

// refusedOps are those that can't be asked, in this state.
func refusedOps(a *agent.Agent) []api.Op {
	list := []api.Op{{Kind: -1}, {Kind: 5}, read(6, 0), read(0, 4), read(-1, 0), write(0, -1, 8), write(6, 3, 8), write(2, 4, 8)}
	if a.Waits() {
		return append(list, begin(), read(0, 0), read(1, 1), write(0, 0, 8), write(1, 1, 8), commit(), abort())
	}
	if a.Open() {
		return append(list, begin())
	}
	return append(list, read(0, 0), read(1, 1), write(0, 0, 8), write(1, 1, 8), commit(), abort())
}

// row is a row of calls that hangs on where the noise begins alone, and all that is told on the way.
func row(seed int, between func(a *agent.Agent, s step)) ([]told, []shown) {
	n := noise(1 + 977*seed)
	a, p := agent.New(1+seed%pages), newPlain(1+seed%pages)
	var answers []told
	var list []shown
	for range 80 {
		s := n.step(p, 1+seed%4)
		between(a, s)
		s.do(p)
		answers = append(answers, s.do(a))
		list = append(list, show(a))
	}
	return answers, list
}

// checkSameRow makes a row with and without something in between.
func checkSameRow(t *testing.T, seed int, between func(a *agent.Agent, s step)) {
	t.Helper()
	answers, list := row(seed, func(*agent.Agent, step) {})
	again, listAgain := row(seed, between)
	if !slices.EqualFunc(answers, again, told.same) || !slices.Equal(list, listAgain) {
		t.Errorf("row %d: other answers the second time", seed)
	}
}

// P17.2: an error changes nothing that any call behind it could tell, and sends nothing.
func TestErrorsChangeNothing(t *testing.T) {
	for seed := range 200 {
		checkSameRow(t, seed, func(a *agent.Agent, _ step) {
			for _, o := range refusedOps(a) {
				if list, x := a.Do(o); len(list) > 0 || x.Err != api.ErrPlace && x.Err != api.ErrState || x != failed(x.Err) {
					t.Errorf("%+v: %+v %+v", o, list, x)
				}
			}
		})
	}
}

// P17.3: messages that do nothing change nothing that any call behind them could tell.
func TestMessagesOfNothingChangeNothing(t *testing.T) {
	for seed := range 200 {
		checkSameRow(t, seed, func(a *agent.Agent, _ step) {
			list := []api.Msg{done(a.Txn() + 1), fail(a.Txn()+1, 61), askRead(0, 0), askWrite(1, 1), busy(0, 1, true), release(0, all, all), commits(a.Txn(), put(0, 0, 1))}
			if !a.Waits() {
				list = append(list, grant(0, all, all), grant(1, 0, 0), done(a.Txn()), fail(0, 61), fail(a.Txn(), 61))
			}
			for _, m := range list {
				checkNothing(t, a, m)
			}
		})
	}
}

// P1: every call ends without a panic at all arguments, in all states.
func TestAllArguments(t *testing.T) {
	numbers := append(wrong(all+1), 0, 1, 3, 4, 5, 6, 7, 8, 15)
	for _, a := range inStates(t) {
		for _, one := range numbers {
			a.Copies(one)
			a.Own(one)
			agent.New(one)
			for _, two := range numbers {
				for kind := -1; kind <= 5; kind++ {
					a.Do(api.Op{Kind: kind, Page: one, Obj: two, Value: 1})
				}
				a.Do(api.Op{Kind: one, Page: two})
				a.Do(api.Op{Kind: one, Obj: two})
			}
		}
		for _, e := range numbers {
			a.Lost(api.Errno(e))
		}
	}
}

// P1: messages that aren't right do no harm, in all states: of each kind, each part one that can't be, and all of them.
func TestMessagesThatArentRight(t *testing.T) {
	long := make([]api.Put, 1000)
	for k := range long {
		long[k] = put(k-500, 3*k-400, 1)
	}
	numbers := append(wrong(all+1), 0, 1, 2, 3, 4, 6, 15)
	for kind := -1; kind <= 9; kind++ {
		for _, n := range numbers {
			parts := []api.Msg{
				{Kind: kind, Page: n}, {Kind: kind, Page: 1, Obj: n}, {Kind: kind, Page: 1, Obj: n, Write: true}, {Kind: kind, Txn: n},
				{Kind: kind, Page: 1, Copy: n, Own: 15}, {Kind: kind, Page: 1, Copy: 15, Own: n}, {Kind: kind, Page: n, Obj: n, Txn: n, Copy: n, Own: n, Write: true, Puts: long},
				{Kind: kind, Page: 1, Txn: 3, Copy: 15, Own: 15, Puts: long}, {Kind: n, Page: 1, Obj: 1, Copy: 15, Own: 15},
			}
			for _, m := range parts {
				for _, a := range inStatesAgain(t) {
					a.Got(m)
					a.Got(m)
					probeAll(a)
				}
			}
		}
	}
}

// inStatesAgain are agents in some states, made without a check of all on the way.
func inStatesAgain(t *testing.T) []*agent.Agent {
	t.Helper()
	var list []*agent.Agent
	for _, last := range []api.Op{read(1, 3), write(1, 3, 60), commit(), abort()} {
		a := agent.New(2)
		a.Do(begin())
		a.Do(write(1, 0, 50))
		a.Got(grant(1, 7, 3))
		a.Do(read(1, 2))
		a.Do(last)
		list = append(list, a)
	}
	return list
}

// probeAll asks all that is left to ask: nothing of it may panic.
func probeAll(a *agent.Agent) {
	for _, s := range probe() {
		s.do(a)
	}
}

// An answer is new memory: written over, spare room too, it changes neither the agent nor another answer.
func TestAnswersAreNewMemory(t *testing.T) {
	for seed := range 200 {
		n := noise(7 + 977*seed)
		a, p := agent.New(1+seed%pages), newPlain(1+seed%pages)
		for range 120 {
			s := n.step(p, 1+seed%4)
			got, want := s.do(a), s.do(p)
			if !got.same(want) {
				t.Fatalf("row %d: %+v: %+v, not %+v", seed, s, got, want)
			}
			spoil(got.list)
		}
	}
}

// spoil writes over a list, and all lists in it, spare room too.
func spoil(list []api.Msg) {
	list = list[:cap(list)]
	for k := range list {
		puts := list[k].Puts[:cap(list[k].Puts)]
		for i := range puts {
			puts[i] = put(9, 9, -9)
		}
		list[k] = api.Msg{Kind: 99, Page: 99, Obj: 99, Txn: 99, Copy: 99, Own: 99, Write: true, Puts: []api.Put{{}}}
	}
}

// Two commits of the same are in memory of their own, and what is sent isn't changed by what comes behind it.
func TestCommitsAreNewMemory(t *testing.T) {
	a := begun(t, 2, have{3, all, all})
	checkDo(t, a, write(3, 1, 7), fine)
	first, _ := a.Do(commit())
	checkTold(t, a, done(2), fine)
	checkDo(t, a, begin(), fine)
	checkDo(t, a, write(3, 1, 8), fine)
	second, _ := a.Do(commit())
	if !sameList(first, []api.Msg{commits(2, put(3, 1, 7))}) || !sameList(second, []api.Msg{commits(3, put(3, 1, 8))}) {
		t.Errorf("what was sent is %+v and %+v", first, second)
	}
	spoil(second)
	checkTold(t, a, done(3), fine)
	checkDo(t, a, begin(), fine)
	checkDo(t, a, read(3, 1), valued(8))
	if !sameList(first, []api.Msg{commits(2, put(3, 1, 7))}) {
		t.Errorf("what was sent first is %+v", first)
	}
}

// A message that is handed in is not changed, spare room included, and not kept: a call that is put off, too.
func TestMessagesAreNotKept(t *testing.T) {
	for _, end := range []api.Op{abort(), commit()} {
		a := begun(t, 2, have{3, all, 7})
		checkDo(t, a, write(3, 1, 7), fine)
		room := []api.Put{put(1, 1, 1), put(2, 2, 2)}
		given := slices.Clone(room)
		m := call(3, 1, true)
		m.Puts = room[:0]
		checkSaid(t, a, m, busy(3, 1, true))
		list, _ := a.Do(end)
		if end.Kind == api.OpCommit {
			list, _, _ = a.Got(done(2))
		}
		if !slices.Equal(room, given) {
			t.Errorf("what was handed in is %+v", room)
		}
		if !sameList(list, []api.Msg{release(3, 2, 2)}) {
			t.Errorf("behind the end %+v", list)
		}
		spoil(list)
		if !slices.Equal(room, given) {
			t.Errorf("written over, what was answered has changed what was handed in: %+v", room)
		}
	}
}

// What a message that does nothing has isn't kept or changed, either.
func TestCommitsAreNotKept(t *testing.T) {
	for _, a := range inStates(t) {
		puts := []api.Put{put(1, 0, 5), put(4, 2, 6), put(5, 3, 7)}
		given := slices.Clone(puts)
		m := api.Msg{Kind: api.Commit, Txn: 3, Puts: puts[:2]}
		if !msg.Right(m) {
			t.Fatal("the test's own message isn't right")
		}
		checkNothing(t, a, m)
		if !slices.Equal(puts, given) {
			t.Errorf("what was handed in is %+v", puts)
		}
	}
}

// P2: what an agent answers hangs on the calls to it alone, whatever is asked of others in between.
func TestAgentsAreApart(t *testing.T) {
	for seed := range 100 {
		other := agent.New(seed % (pages + 1))
		checkSameRow(t, seed, func(_ *agent.Agent, s step) {
			s.do(other)
			agent.New(3).Do(begin())
		})
	}
}

// P2: two agents with the same pages don't touch each other.
func TestTwoAgents(t *testing.T) {
	a, b := begun(t, 2, have{3, all, all}), begun(t, 2, have{3, all, all})
	before := show(b)
	checkDo(t, a, write(3, 1, 7), fine)
	checkSaid(t, a, call(3, 0, true), release(3, 1, 13))
	checkSaid(t, a, call(3, 1, true), busy(3, 1, true))
	checkDo(t, a, commit(), waiting, commits(2, put(3, 1, 7)))
	if show(b) != before {
		t.Error("calls to one have changed the other")
	}
	checkSaid(t, b, call(3, 1, true), release(3, 2, all))
	checkTold(t, a, done(2), fine, release(3, 2, 2))
	checkDo(t, b, read(3, 0), valued(values(3)[0]))
	checkLost(t, a, 5, fine, false)
	checkMasks(t, b, 3, 13, 0)
	checkState(t, b, true, 2, false)
}

// P2: asking for what is there changes nothing, however often: the rows are the same with and without.
func TestAskingChangesNothing(t *testing.T) {
	for seed := range 100 {
		checkSameRow(t, seed, func(a *agent.Agent, _ step) {
			before := show(a)
			for range 3 {
				if show(a) != before {
					t.Fatal("asked again, it tells something else")
				}
			}
		})
	}
}
