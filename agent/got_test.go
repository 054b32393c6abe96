package agent_test

import (
	"testing"

	"cloakroom/agent"
	"cloakroom/api"
)

// P17.3: a grant of what it waits to read is put, the object is read, and its value the answer.
func TestGrantToRead(t *testing.T) {
	for copies := range all + 1 {
		for own := range all + 1 {
			for obj := range objs {
				a := begun(t, 2)
				checkDo(t, a, read(3, obj), waiting, askRead(3, obj))
				if copies>>obj&1 == 0 {
					checkTold(t, a, grant(3, copies, own), failed(api.ErrState))
				} else {
					checkTold(t, a, grant(3, copies, own), valued(values(3)[obj]))
				}
				checkMasks(t, a, 3, copies, own&copies)
				checkState(t, a, true, 1, false)
				if copies>>obj&1 == 1 {
					checkSaid(t, a, call(3, obj, true), busy(3, obj, true))
				} else {
					checkSaid(t, a, call(3, obj, true), release(3, 1<<obj, 1<<obj))
				}
			}
		}
	}
}

// P17.3: a grant of what it waits to write is put, and the object written, if it is owned then.
func TestGrantToWrite(t *testing.T) {
	for copies := range all + 1 {
		for own := range all + 1 {
			for obj := range objs {
				a := begun(t, 2)
				checkDo(t, a, write(3, obj, 70), waiting, askWrite(3, obj))
				if own&copies>>obj&1 == 0 {
					checkTold(t, a, grant(3, copies, own), failed(api.ErrState))
					checkDo(t, a, commit(), waiting, commits(1))
				} else {
					checkTold(t, a, grant(3, copies, own), fine)
					checkSaid(t, a, call(3, obj, false), busy(3, obj, false))
					checkDo(t, a, read(3, obj), valued(70))
					checkDo(t, a, commit(), waiting, commits(1, put(3, obj, 70)))
				}
				checkMasks(t, a, 3, copies, own&copies)
			}
		}
	}
}

// P17.3: a grant's masks and values come in the place of those that the cache had, in part or in whole.
func TestGrantOfPageThatIsThere(t *testing.T) {
	a := begun(t, 1, have{3, 7, 5})
	checkDo(t, a, read(3, 1), valued(values(3)[1]))
	checkDo(t, a, read(3, 3), waiting, askRead(3, 3))
	m := grant(3, 14, 2)
	m.Values = [objs]complex128{90, 91, 92, 93}
	checkTold(t, a, m, valued(93))
	checkMasks(t, a, 3, 14, 2)
	for _, obj := range []int{1, 2, 3} {
		checkDo(t, a, read(3, obj), valued(m.Values[obj]))
	}
	checkDo(t, a, read(3, 0), waiting, askRead(3, 0))
	checkTold(t, a, grant(3, 0, 0), failed(api.ErrState))
	checkMasks(t, a, 3, 0, 0)
	checkState(t, a, true, 2, false)
}

// P17.3: a grant's Own outside its Copy is left out.
func TestGrantOfOwnOutsideCopy(t *testing.T) {
	a := begun(t, 1)
	checkDo(t, a, write(3, 2, 7), waiting, askWrite(3, 2))
	checkTold(t, a, grant(3, 6, 13), fine)
	checkMasks(t, a, 3, 6, 4)
	a = begun(t, 1)
	checkDo(t, a, write(3, 2, 7), waiting, askWrite(3, 2))
	checkTold(t, a, grant(3, 3, 4), failed(api.ErrState))
	checkMasks(t, a, 3, 3, 0)
}

// P17.3: a grant of another page, and one that nothing of its kind waits for, do nothing.
func TestGrantThatNobodyWaitsFor(t *testing.T) {
	for what, a := range inStates(t) {
		for page := range pages {
			if page == 1 && (what == "reads" || what == "writes") {
				continue
			}
			for _, masks := range [][2]int{{0, 0}, {all, 0}, {all, all}, {8, 8}} {
				checkNothing(t, a, grant(page, masks[0], masks[1]))
			}
		}
	}
}

// P17.3: without room for the page it is sent back, all of it, and the answer is ErrRoom; the transaction goes on.
func TestGrantWithoutRoom(t *testing.T) {
	for _, o := range []api.Op{read(5, 1), write(5, 1, 9)} {
		a := begun(t, 2, have{3, all, all}, have{0, 3, 0})
		checkDo(t, a, write(3, 2, 70), fine)
		checkDo(t, a, read(0, 1), valued(values(0)[1]))
		list, x := a.Do(o)
		if len(list) != 1 || !x.Waits {
			t.Fatal(list, x)
		}
		checkTold(t, a, grant(5, 2, 2), failed(api.ErrRoom), release(5, all, all))
		checkState(t, a, true, 3, false)
		checkMasks(t, a, 3, all, all)
		checkMasks(t, a, 0, 3, 0)
		checkMasks(t, a, 5, 0, 0)
		checkNothing(t, a, grant(5, 2, 2))
		checkDo(t, a, read(0, 0), valued(values(0)[0]))
		checkDo(t, a, commit(), waiting, commits(3, put(3, 2, 70)))
	}
}

// P17.3: a grant without copies needs no room: the page isn't there behind it, and the answer is ErrState.
func TestGrantOfNothingWithoutRoom(t *testing.T) {
	a := begun(t, 1, have{3, all, all})
	checkDo(t, a, read(3, 2), valued(values(3)[2]))
	checkDo(t, a, read(5, 1), waiting, askRead(5, 1))
	checkTold(t, a, grant(5, 0, all), failed(api.ErrState))
	checkMasks(t, a, 3, all, all)
	checkMasks(t, a, 5, 0, 0)
	checkState(t, a, true, 2, false)
}

// P17.3: a page that goes is sent back, all of it, whatever it had: the one that was used first of those of which
// nothing is read or written.
func TestGrantForWhichAPageGoes(t *testing.T) {
	for page := range 3 {
		a := begun(t, 3, have{0, 1, 0}, have{1, 6, 2}, have{2, all, all})
		goes := page
		for other := range page {
			if other == 1 {
				checkDo(t, a, write(1, 1, 5), fine)
			} else {
				checkDo(t, a, read(other, 0), valued(values(other)[0]))
			}
		}
		checkDo(t, a, read(4, 3), waiting, askRead(4, 3))
		checkTold(t, a, grant(4, 8, 8), valued(values(4)[3]), release(goes, all, all))
		checkMasks(t, a, goes, 0, 0)
		checkMasks(t, a, 4, 8, 8)
		checkDo(t, a, read(goes, 0), waiting, askRead(goes, 0))
	}
}

// P17.3: a page goes too where the grant doesn't hold the object.
func TestGrantOfOthersForWhichAPageGoes(t *testing.T) {
	a := begun(t, 1, have{0, 1, 0})
	checkDo(t, a, read(4, 3), waiting, askRead(4, 3))
	checkTold(t, a, grant(4, 7, 0), failed(api.ErrState), release(0, all, all))
	checkMasks(t, a, 0, 0, 0)
	checkMasks(t, a, 4, 7, 0)
	checkState(t, a, true, 2, false)
}

// P17.3: a page is kept while something of it is read, or written, and no longer; one that was granted in vain isn't.
func TestGrantKeepsWhatIsTouched(t *testing.T) {
	a := begun(t, 1, have{0, all, all})
	checkDo(t, a, write(0, 1, 5), fine)
	checkDo(t, a, read(4, 3), waiting, askRead(4, 3))
	checkTold(t, a, grant(4, 8, 0), failed(api.ErrRoom), release(4, all, all))
	checkDo(t, a, abort(), fine)
	checkDo(t, a, begin(), fine)
	checkDo(t, a, read(4, 3), waiting, askRead(4, 3))
	checkTold(t, a, grant(4, 7, 0), failed(api.ErrState), release(0, all, all))
	checkDo(t, a, read(5, 0), waiting, askRead(5, 0))
	checkTold(t, a, grant(5, 1, 0), valued(values(5)[0]), release(4, all, all))
	checkDo(t, a, read(4, 3), waiting, askRead(4, 3))
	checkTold(t, a, grant(4, 8, 0), failed(api.ErrRoom), release(4, all, all))
}

// P17.3: what was written in a page that isn't there any more keeps no room.
func TestWrittenPageThatIsntThere(t *testing.T) {
	a := begun(t, 1, have{3, 3, 3})
	checkDo(t, a, write(3, 1, 70), fine)
	checkDo(t, a, read(3, 2), waiting, askRead(3, 2))
	checkTold(t, a, grant(3, 0, 0), failed(api.ErrState))
	checkDo(t, a, read(5, 0), waiting, askRead(5, 0))
	checkTold(t, a, grant(5, 1, 1), valued(values(5)[0]))
	checkDo(t, a, read(3, 2), waiting, askRead(3, 2))
	checkTold(t, a, grant(3, 4, 4), failed(api.ErrRoom), release(3, all, all))
	checkDo(t, a, commit(), waiting, commits(2, put(3, 1, 70)))
	checkTold(t, a, done(2), fine)
	checkMasks(t, a, 3, 0, 0)
	checkMasks(t, a, 5, 1, 1)
}

// calledCase is an object of page 3, and what a call of it leads to.
type calledCase struct {
	what        string
	copies, own int
	ops         []api.Op
	obj         int
	write, busy bool
	// What is given up, where it isn't busy.
	copy, owned int
}

func calledCases() []calledCase {
	readTwo, writeTwo := []api.Op{read(3, 2)}, []api.Op{write(3, 2, 7)}
	both := []api.Op{read(3, 2), write(3, 2, 7)}
	return []calledCase{
		{"read, to read", all, 0, readTwo, 2, false, false, 0, 4},
		{"read, to write", all, 0, readTwo, 2, true, true, 0, 0},
		{"read and owned, to read", all, 6, readTwo, 2, false, false, 0, 4},
		{"read and owned, to write", all, 6, readTwo, 2, true, true, 0, 0},
		{"read, all owned, to read", all, all, readTwo, 2, false, false, 0, all},
		{"read, all owned, to write", all, all, readTwo, 2, true, true, 0, 0},
		{"written, to read", all, 4, writeTwo, 2, false, true, 0, 0},
		{"written, to write", all, 4, writeTwo, 2, true, true, 0, 0},
		{"written, all owned, to read", all, all, writeTwo, 2, false, true, 0, 0},
		{"written, all owned, to write", all, all, writeTwo, 2, true, true, 0, 0},
		{"both, to read", all, 4, both, 2, false, true, 0, 0},
		{"both, to write", all, 4, both, 2, true, true, 0, 0},
		{"another one, to read", all, 5, both, 0, false, false, 0, 1},
		{"another one, to write", all, 5, both, 0, true, false, 1, 1},
		{"another one, not owned, to read", all, 4, both, 0, false, false, 0, 1},
		{"another one, not owned, to write", all, 4, both, 0, true, false, 1, 1},
		{"another one, all owned, one read, to read", all, all, readTwo, 0, false, false, 0, all},
		{"another one, all owned, one read, to write", all, all, readTwo, 0, true, false, 1, all},
		{"another one, all owned, one written, to read", all, all, writeTwo, 0, false, false, 0, 11},
		{"another one, all owned, one written, to write", all, all, writeTwo, 0, true, false, 1, 11},
		{"none, to read", all, 3, nil, 1, false, false, 0, 2},
		{"none, to write", all, 3, nil, 1, true, false, 2, 2},
		{"none, all owned, to read", all, all, nil, 3, false, false, 0, all},
		{"none, all owned, to write", all, all, nil, 3, true, false, 8, all},
		{"no copy, to read", 7, 7, nil, 3, false, false, 0, 8},
		{"no copy, to write", 7, 7, nil, 3, true, false, 8, 8},
	}
}

// P17.3: a call of an object in use is put off, and busy; else the agent gives way: what is dropped is what is sent.
func TestCall(t *testing.T) {
	for _, c := range calledCases() {
		a := begun(t, 2, have{3, c.copies, c.own}, have{1, all, all})
		for _, o := range c.ops {
			a.Do(o)
		}
		if c.busy {
			checkSaid(t, a, call(3, c.obj, c.write), busy(3, c.obj, c.write))
			checkMasks(t, a, 3, c.copies, c.own)
		} else {
			checkSaid(t, a, call(3, c.obj, c.write), release(3, c.copy, c.owned))
			checkMasks(t, a, 3, c.copies&^c.copy, c.own&^c.owned)
		}
		checkMasks(t, a, 1, all, all)
		checkState(t, a, true, 3, false)
		if t.Failed() {
			t.Fatal(c.what)
		}
	}
}

// P17.3: all masks of a page, all that can be written of it, and all calls: what is in use, and what is given up.
func TestCallOfAllMasks(t *testing.T) {
	for own := range all + 1 {
		for wrote := range all + 1 {
			if wrote&^own != 0 {
				continue
			}
			for obj := range objs {
				for _, writes := range []bool{false, true} {
					a := begun(t, 1, have{2, all, own})
					for k := range objs {
						if wrote>>k&1 == 1 {
							checkDo(t, a, write(2, k, 1), fine)
						}
					}
					checkCall(t, a, own, wrote, obj, writes)
				}
			}
		}
	}
}

// checkCall calls an object of page 2, all copies, of which these are owned and written.
func checkCall(t *testing.T, a *agent.Agent, own, wrote, obj int, writes bool) {
	t.Helper()
	bit := 1 << obj
	if wrote&bit > 0 {
		checkSaid(t, a, call(2, obj, writes), busy(2, obj, writes))
		checkMasks(t, a, 2, all, own)
		return
	}
	copies, gives := 0, bit
	if writes {
		copies = bit
	}
	if own == all {
		gives = all - wrote
	}
	checkSaid(t, a, call(2, obj, writes), release(2, copies, gives))
	checkMasks(t, a, 2, all-copies, own&^gives&^copies)
}

// P17.3: a call of a page that isn't there is answered with a release all the same, in any state.
func TestCallOfPageThatIsntThere(t *testing.T) {
	for what, a := range inStates(t) {
		for obj := range objs {
			checkSaid(t, a, call(5, obj, false), release(5, 0, 1<<obj))
			checkSaid(t, a, call(5, obj, true), release(5, 1<<obj, 1<<obj))
			checkMasks(t, a, 5, 0, 0)
		}
		waits := what == "reads" || what == "writes" || what == "commits"
		checkState(t, a, waits || what == "open", a.Txn(), waits)
	}
}

// P17.3: a page all of whose copies are called away is there no more, and takes no room.
func TestCallOfLastCopy(t *testing.T) {
	a := begun(t, 1, have{3, 4, 4})
	checkSaid(t, a, call(3, 2, true), release(3, 4, 4))
	checkMasks(t, a, 3, 0, 0)
	checkDo(t, a, read(5, 0), waiting, askRead(5, 0))
	checkTold(t, a, grant(5, 1, 0), valued(values(5)[0]))
}

// P17.3: a call uses no page: it changes nothing in who goes.
func TestCallUsesNoPage(t *testing.T) {
	a := begun(t, 2, have{3, all, all}, have{4, all, all})
	checkSaid(t, a, call(3, 2, false), release(3, 0, all))
	checkDo(t, a, read(5, 0), waiting, askRead(5, 0))
	checkTold(t, a, grant(5, 1, 0), valued(values(5)[0]), release(3, all, all))
}

// P17.3: the same call twice is busy twice, and put off once; one that differs in anything is another one.
func TestSameCallTwice(t *testing.T) {
	a := begun(t, 2, have{3, all, 7}, have{4, all, 7})
	for _, o := range []api.Op{write(3, 1, 7), write(3, 2, 7), write(4, 1, 7)} {
		checkDo(t, a, o, fine)
	}
	list := []api.Msg{call(4, 1, true), call(3, 1, false), call(3, 2, true), call(3, 1, true)}
	for range 3 {
		for _, m := range list {
			checkSaid(t, a, m, busy(m.Page, m.Obj, m.Write))
		}
	}
	checkDo(t, a, abort(), fine, release(4, 2, 2), release(3, 0, 2), release(3, 4, 4), release(3, 2, 2))
	checkMasks(t, a, 3, 9, 1)
	checkMasks(t, a, 4, 13, 5)
	checkDo(t, a, begin(), fine)
	checkDo(t, a, abort(), fine)
}

// P17.3: the calls that are put off are given way to one by one, in their order: where all four are owned the first one
// takes them, and those behind it find fewer.
func TestCallsInTheirOrder(t *testing.T) {
	a := begun(t, 2, have{3, all, all})
	checkDo(t, a, write(3, 1, 7), fine)
	checkDo(t, a, write(3, 2, 8), fine)
	checkSaid(t, a, call(3, 2, false), busy(3, 2, false))
	checkSaid(t, a, call(3, 1, true), busy(3, 1, true))
	checkDo(t, a, commit(), waiting, commits(2, put(3, 1, 7), put(3, 2, 8)))
	checkTold(t, a, done(2), fine, release(3, 0, all), release(3, 2, 2))
	checkMasks(t, a, 3, 13, 0)
	a = begun(t, 2, have{3, all, all})
	checkDo(t, a, write(3, 1, 7), fine)
	checkDo(t, a, write(3, 2, 8), fine)
	checkSaid(t, a, call(3, 1, true), busy(3, 1, true))
	checkSaid(t, a, call(3, 2, false), busy(3, 2, false))
	checkDo(t, a, abort(), fine, release(3, 2, all), release(3, 0, 4))
	checkMasks(t, a, 3, 13, 0)
}

// P17.3: calls are put off while it waits, too, and given way to with each kind of end.
func TestCallsWhileItWaits(t *testing.T) {
	ends := map[string]func(a *agent.Agent){
		"done":        func(a *agent.Agent) { checkTold(t, a, done(2), fine, release(3, 2, all)) },
		"fail, 0":     func(a *agent.Agent) { checkTold(t, a, fail(0, 151), failed(api.ErrDeadlock), release(3, 2, all)) },
		"fail, its":   func(a *agent.Agent) { checkTold(t, a, fail(2, 61), failed(api.ErrFull), release(3, 2, all)) },
		"lost":        func(a *agent.Agent) { checkLost(t, a, 181, failed(api.ErrLost), true) },
		"fail, 0, 99": func(a *agent.Agent) { checkTold(t, a, fail(0, 99), failed(99), release(3, 2, all)) },
	}
	for what, end := range ends {
		a := begun(t, 2, have{3, all, all})
		checkDo(t, a, write(3, 1, 7), fine)
		checkDo(t, a, commit(), waiting, commits(2, put(3, 1, 7)))
		checkSaid(t, a, call(3, 1, true), busy(3, 1, true))
		checkState(t, a, true, 2, true)
		end(a)
		checkState(t, a, false, 2, false)
		checkDo(t, a, begin(), fine)
		checkDo(t, a, abort(), fine)
		if t.Failed() {
			t.Fatal(what)
		}
	}
}

// P17.3: a call of what it waits for, and doesn't have yet, is given way to.
func TestCallOfWhatItWaitsFor(t *testing.T) {
	a := begun(t, 2, have{3, 2, 0})
	checkDo(t, a, write(3, 1, 7), waiting, askWrite(3, 1))
	checkSaid(t, a, call(3, 1, true), release(3, 2, 2))
	checkState(t, a, true, 2, true)
	checkTold(t, a, grant(3, 2, 2), fine)
	checkDo(t, a, read(3, 1), valued(7))
}

// P17.3: what is put off behind an end that nobody told of stays, till the next one: nothing is told twice.
func TestCallsAreGivenWayOnce(t *testing.T) {
	a := begun(t, 2, have{3, all, 0})
	checkDo(t, a, read(3, 1), valued(values(3)[1]))
	checkSaid(t, a, call(3, 1, true), busy(3, 1, true))
	checkDo(t, a, read(5, 1), waiting, askRead(5, 1))
	checkTold(t, a, grant(5, 0, 0), failed(api.ErrState))
	checkDo(t, a, abort(), fine, release(3, 2, 2))
	checkDo(t, a, begin(), fine)
	checkDo(t, a, commit(), waiting, commits(3))
	checkTold(t, a, done(3), fine)
}

// P17.3: with Done what was written is in the cache, and it ends.
func TestDone(t *testing.T) {
	a := begun(t, 3, have{3, all, all}, have{1, all, 3})
	checkDo(t, a, write(3, 2, 70), fine)
	checkDo(t, a, write(1, 0, 71), fine)
	checkDo(t, a, write(1, 1, 72), fine)
	checkDo(t, a, read(1, 3), valued(values(1)[3]))
	checkDo(t, a, commit(), waiting, commits(3, put(1, 0, 71), put(1, 1, 72), put(3, 2, 70)))
	checkTold(t, a, done(3), fine)
	checkState(t, a, false, 3, false)
	checkMasks(t, a, 3, all, all)
	checkMasks(t, a, 1, all, 3)
	checkDo(t, a, begin(), fine)
	for page, want := range map[int][objs]complex128{3: {30 + 1i, 31 + 1i, 70, 33 + 1i}, 1: {71, 72, 12 + 1i, 13 + 1i}} {
		for obj, v := range want {
			checkDo(t, a, read(page, obj), valued(v))
		}
	}
}

// P17.3: what was written is Set, so its page is used; of several the one with the greatest number was used last.
func TestDoneUsesThePages(t *testing.T) {
	a := begun(t, 3, have{4, all, all}, have{2, all, all}, have{0, all, all})
	checkDo(t, a, write(4, 0, 7), fine)
	checkDo(t, a, write(2, 3, 8), fine)
	checkDo(t, a, commit(), waiting, commits(4, put(2, 3, 8), put(4, 0, 7)))
	checkTold(t, a, done(4), fine)
	for k, goes := range []int{0, 2, 4} {
		page := 2*k + 1
		checkDo(t, a, begin(), fine)
		checkDo(t, a, read(page, 0), waiting, askRead(page, 0))
		checkTold(t, a, grant(page, 1, 0), valued(values(page)[0]), release(goes, all, all))
		checkDo(t, a, abort(), fine)
	}
}

// P17.3: Done of another transaction, or while it doesn't wait for a commit, does nothing.
func TestDoneThatNobodyWaitsFor(t *testing.T) {
	for what, a := range inStates(t) {
		for _, txn := range []int{0, 1, 2, 3, 4, 255, 259, 65539, api.MaxNum} {
			if what != "commits" || txn != 3 {
				checkNothing(t, a, done(txn))
			}
		}
	}
}

// P17.3: a Fail of transaction 0, or of its own, ends it while it waits for anything; the answer has its error.
func TestFail(t *testing.T) {
	for _, what := range []string{"reads", "writes", "commits"} {
		for _, txn := range []int{0, 3} {
			for _, e := range []api.Errno{1, 61, 71, 151, 256, 257, 998, 999} {
				a := inStates(t)[what]
				checkSaid(t, a, call(1, 0, false), busy(1, 0, false))
				checkTold(t, a, fail(txn, e), failed(e), release(1, 0, 1))
				checkState(t, a, false, 3, false)
				checkMasks(t, a, 1, 7, 2)
				checkMasks(t, a, 4, all, all)
				checkDo(t, a, begin(), fine)
				checkDo(t, a, read(1, 0), valued(values(1)[0]))
				checkNothing(t, a, fail(txn, e))
			}
		}
	}
}

// P17.3: a Fail of another transaction, or while it waits for nothing, does nothing.
func TestFailThatNobodyWaitsFor(t *testing.T) {
	for what, a := range inStates(t) {
		for _, txn := range []int{0, 1, 2, 3, 4, 255, 259, 65539, api.MaxNum} {
			waits := what == "reads" || what == "writes" || what == "commits"
			if !waits || txn != 0 && txn != 3 {
				checkNothing(t, a, fail(txn, 61))
			}
		}
	}
}

// P17.3: all other kinds, those of a client, do nothing.
func TestOtherKinds(t *testing.T) {
	for _, a := range inStates(t) {
		for page := range pages {
			for obj := range objs {
				checkNothing(t, a, askRead(page, obj))
				checkNothing(t, a, askWrite(page, obj))
				checkNothing(t, a, busy(page, obj, false))
				checkNothing(t, a, busy(page, obj, true))
			}
			checkNothing(t, a, release(page, all, all))
			checkNothing(t, a, release(page, 1, 0))
		}
		for txn := range 5 {
			checkNothing(t, a, commits(txn))
			checkNothing(t, a, commits(txn, put(1, 0, 9), put(4, 2, 8)))
		}
	}
}

// P17.4: whatever the state, it ends: no copies, nothing sent, Txn stays; what waited is answered with that error.
func TestLost(t *testing.T) {
	for _, e := range []api.Errno{api.ErrLost, 1, 0, -1, 999, 1 << 40} {
		for what, a := range inStates(t) {
			txn := a.Txn()
			waits := what == "reads" || what == "writes" || what == "commits"
			if waits {
				checkLost(t, a, e, failed(e), true)
			} else {
				checkLost(t, a, e, fine, false)
			}
			checkState(t, a, false, txn, false)
			for page := range pages {
				checkMasks(t, a, page, 0, 0)
			}
			checkNothing(t, a, grant(1, all, all))
			checkNothing(t, a, done(3))
			checkNothing(t, a, fail(0, 61))
			checkLost(t, a, e, fine, false)
			checkDo(t, a, begin(), fine)
			checkState(t, a, true, txn+1, false)
			checkDo(t, a, read(1, 0), waiting, askRead(1, 0))
			checkTold(t, a, grant(1, 1, 0), valued(values(1)[0]))
			checkDo(t, a, commit(), waiting, commits(txn+1))
		}
	}
}

// P17.4: no call is put off any more, and nothing is in use.
func TestLostWithCalls(t *testing.T) {
	for _, o := range []api.Op{commit(), read(5, 0), write(5, 0, 1)} {
		a := begun(t, 2, have{3, all, all})
		checkDo(t, a, write(3, 1, 7), fine)
		checkDo(t, a, read(3, 2), valued(values(3)[2]))
		checkSaid(t, a, call(3, 1, false), busy(3, 1, false))
		checkSaid(t, a, call(3, 2, true), busy(3, 2, true))
		a.Do(o)
		checkLost(t, a, api.ErrLost, failed(api.ErrLost), true)
		checkSaid(t, a, call(3, 1, false), release(3, 0, 2))
		checkSaid(t, a, call(3, 2, true), release(3, 4, 4))
		checkDo(t, a, begin(), fine)
		checkDo(t, a, abort(), fine)
	}
}

// P17.4: a cache that was cleared has all its room.
func TestLostLeavesRoom(t *testing.T) {
	a := begun(t, 1, have{3, all, all})
	checkDo(t, a, read(3, 2), valued(values(3)[2]))
	checkLost(t, a, api.ErrLost, fine, false)
	checkDo(t, a, begin(), fine)
	checkDo(t, a, read(5, 0), waiting, askRead(5, 0))
	checkTold(t, a, grant(5, 1, 0), valued(values(5)[0]))
}
