package agent_test

import (
	"math"
	"testing"

	"cloakroom/agent"
	"cloakroom/api"
	"cloakroom/cnum"
	"cloakroom/msg"
)

const (
	pages = 6
	objs  = 4
	all   = 15
)

func begin() api.Op  { return api.Op{Kind: api.OpBegin} }
func commit() api.Op { return api.Op{Kind: api.OpCommit} }
func abort() api.Op  { return api.Op{Kind: api.OpAbort} }

func read(page, obj int) api.Op {
	return api.Op{Kind: api.OpRead, Page: page, Obj: obj}
}

func write(page, obj int, v complex128) api.Op {
	return api.Op{Kind: api.OpWrite, Page: page, Obj: obj, Value: v}
}

func askRead(page, obj int) api.Msg {
	return api.Msg{Kind: api.AskRead, Page: page, Obj: obj}
}

func askWrite(page, obj int) api.Msg {
	return api.Msg{Kind: api.AskWrite, Page: page, Obj: obj}
}

func commits(txn int, puts ...api.Put) api.Msg {
	return api.Msg{Kind: api.Commit, Txn: txn, Puts: puts}
}

func release(page, copies, own int) api.Msg {
	return api.Msg{Kind: api.Release, Page: page, Copy: copies, Own: own}
}

func busy(page, obj int, write bool) api.Msg {
	return api.Msg{Kind: api.Busy, Page: page, Obj: obj, Write: write}
}

func grant(page, copies, own int) api.Msg {
	return api.Msg{Kind: api.Grant, Page: page, Copy: copies, Own: own, Values: values(page)}
}

func call(page, obj int, write bool) api.Msg {
	return api.Msg{Kind: api.Call, Page: page, Obj: obj, Write: write}
}

func done(txn int) api.Msg {
	return api.Msg{Kind: api.Done, Txn: txn}
}

func fail(txn int, e api.Errno) api.Msg {
	return api.Msg{Kind: api.Fail, Txn: txn, Copy: int(e)}
}

func put(page, obj int, v complex128) api.Put {
	return api.Put{Page: page, Obj: obj, Value: v}
}

// values are those of a page's objects, which no other page has.
func values(page int) [objs]complex128 {
	var list [objs]complex128
	for k := range list {
		list[k] = complex(float64(10*page+k), 1)
	}
	return list
}

// Answers that are met often.
var (
	fine    = api.Answer{}
	waiting = api.Answer{Waits: true}
)

func failed(e api.Errno) api.Answer {
	return api.Answer{Err: e}
}

func valued(v complex128) api.Answer {
	return api.Answer{Value: v}
}

func sameAnswer(a, b api.Answer) bool {
	return a.Err == b.Err && a.Waits == b.Waits && cnum.Same(a.Value, b.Value)
}

func sameList(a, b []api.Msg) bool {
	if len(a) != len(b) {
		return false
	}
	for k := range a {
		if !msg.Same(a[k], b[k]) {
			return false
		}
	}
	return true
}

func checkDo(t *testing.T, a *agent.Agent, o api.Op, want api.Answer, sent ...api.Msg) {
	t.Helper()
	before := show(a)
	list, x := a.Do(o)
	if !sameList(list, sent) || !sameAnswer(x, want) {
		t.Errorf("Do %+v: %+v %+v, not %+v %+v", o, list, x, sent, want)
	}
	if want.Err != api.OK && show(a) != before {
		t.Errorf("Do %+v was refused and has changed something", o)
	}
}

// checkSaid hands in a message by which nothing is answered.
func checkSaid(t *testing.T, a *agent.Agent, m api.Msg, sent ...api.Msg) {
	t.Helper()
	list, x, ok := a.Got(m)
	if !sameList(list, sent) || !sameAnswer(x, fine) || ok {
		t.Errorf("Got %+v: %+v %+v %t, not %+v and no answer", m, list, x, ok, sent)
	}
}

// checkNothing hands in a message that does nothing.
func checkNothing(t *testing.T, a *agent.Agent, m api.Msg) {
	t.Helper()
	before := show(a)
	checkSaid(t, a, m)
	if show(a) != before {
		t.Errorf("Got %+v has changed something", m)
	}
}

// checkTold hands in a message by which what waits is answered.
func checkTold(t *testing.T, a *agent.Agent, m api.Msg, want api.Answer, sent ...api.Msg) {
	t.Helper()
	list, x, ok := a.Got(m)
	if !sameList(list, sent) || !sameAnswer(x, want) || !ok {
		t.Errorf("Got %+v: %+v %+v %t, not %+v %+v", m, list, x, ok, sent, want)
	}
	if a.Waits() {
		t.Errorf("behind %+v it waits still", m)
	}
}

func checkLost(t *testing.T, a *agent.Agent, e api.Errno, want api.Answer, wantOK bool) {
	t.Helper()
	if x, ok := a.Lost(e); !sameAnswer(x, want) || ok != wantOK {
		t.Errorf("Lost %d: %+v %t, not %+v %t", e, x, ok, want, wantOK)
	}
}

func checkState(t *testing.T, a *agent.Agent, open bool, txn int, waits bool) {
	t.Helper()
	if a.Open() != open || a.Txn() != txn || a.Waits() != waits {
		t.Errorf("open %t, transaction %d, waits %t; not %t, %d, %t", a.Open(), a.Txn(), a.Waits(), open, txn, waits)
	}
}

func checkMasks(t *testing.T, a *agent.Agent, page, copies, own int) {
	t.Helper()
	if a.Copies(page) != copies || a.Own(page) != own {
		t.Errorf("page %d: %d are copies and %d owned, not %d and %d", page, a.Copies(page), a.Own(page), copies, own)
	}
}

// have is what is granted of a page.
type have struct{ page, copies, own int }

// with is an agent with these pages, put in this order by transactions that are over.
func with(t *testing.T, many int, list ...have) *agent.Agent {
	t.Helper()
	a := agent.New(many)
	for _, h := range list {
		obj := lowest(h.copies)
		checkDo(t, a, begin(), fine)
		checkDo(t, a, read(h.page, obj), waiting, askRead(h.page, obj))
		checkTold(t, a, grant(h.page, h.copies, h.own), valued(values(h.page)[obj]))
		checkDo(t, a, abort(), fine)
		checkMasks(t, a, h.page, h.copies, h.own)
	}
	checkState(t, a, false, len(list), false)
	return a
}

// begun is one of those whose next transaction has begun.
func begun(t *testing.T, many int, list ...have) *agent.Agent {
	t.Helper()
	a := with(t, many, list...)
	checkDo(t, a, begin(), fine)
	checkState(t, a, true, len(list)+1, false)
	return a
}

// lowest is the first object of a mask.
func lowest(mask int) int {
	for k := range objs {
		if mask>>k&1 == 1 {
			return k
		}
	}
	return 0
}

// The chapter's example.
func TestExample(t *testing.T) {
	a := begun(t, 2, have{3, 2, 0})
	checkDo(t, a, read(3, 1), valued(values(3)[1]))
	checkSaid(t, a, call(3, 1, true), busy(3, 1, true))
	checkMasks(t, a, 3, 2, 0)
	checkDo(t, a, abort(), fine, release(3, 2, 2))
	checkMasks(t, a, 3, 0, 0)
}

// P17.1: no transaction is open, its number is 0, it waits for nothing, and there are no copies.
func TestNew(t *testing.T) {
	for _, many := range append(wrong(7), 1, 2, 3, 4, 5, 6) {
		a := agent.New(many)
		checkState(t, a, false, 0, false)
		for page := range pages {
			checkMasks(t, a, page, 0, 0)
		}
		checkDo(t, a, begin(), fine)
		checkDo(t, a, commit(), waiting, commits(1))
		checkTold(t, a, done(1), fine)
		checkState(t, a, false, 1, false)
	}
}

// P17.1: the cache has room for so many pages, below 1 for one, above 6 for six.
func TestNewHasRoom(t *testing.T) {
	for _, many := range append(wrong(7), 1, 2, 3, 4, 5, 6) {
		room := min(max(many, 1), pages)
		a := agent.New(many)
		for page := range pages {
			checkDo(t, a, begin(), fine)
			checkDo(t, a, read(page, 0), waiting, askRead(page, 0))
			var sent []api.Msg
			if page >= room {
				sent = append(sent, release(page-room, all, all))
			}
			checkTold(t, a, grant(page, all, 1), valued(values(page)[0]), sent...)
			checkDo(t, a, abort(), fine)
			for other := range pages {
				if other <= page && other > page-room {
					checkMasks(t, a, other, all, 1)
				} else {
					checkMasks(t, a, other, 0, 0)
				}
			}
		}
	}
}

// P17.1: Copies and Own are the cache's, of pages that there aren't none.
func TestMasks(t *testing.T) {
	for copies := 1; copies <= all; copies++ {
		for own := range all + 1 {
			if own&^copies != 0 {
				continue
			}
			a := with(t, 3, have{4, copies, own}, have{1, all, 2})
			checkMasks(t, a, 4, copies, own)
			checkMasks(t, a, 1, all, 2)
			for _, page := range append(wrong(pages), 0, 2, 3, 5) {
				checkMasks(t, a, page, 0, 0)
			}
		}
	}
}

// P17.1: Txn and Open go with the transaction, Waits with what it waits for.
func TestState(t *testing.T) {
	a := agent.New(2)
	checkDo(t, a, begin(), fine)
	checkState(t, a, true, 1, false)
	checkDo(t, a, read(2, 3), waiting, askRead(2, 3))
	checkState(t, a, true, 1, true)
	checkTold(t, a, grant(2, 8, 0), valued(values(2)[3]))
	checkState(t, a, true, 1, false)
	checkDo(t, a, write(2, 3, 9), waiting, askWrite(2, 3))
	checkState(t, a, true, 1, true)
	checkTold(t, a, grant(2, 8, 8), fine)
	checkState(t, a, true, 1, false)
	checkDo(t, a, commit(), waiting, commits(1, put(2, 3, 9)))
	checkState(t, a, true, 1, true)
	checkTold(t, a, done(1), fine)
	checkState(t, a, false, 1, false)
	checkDo(t, a, begin(), fine)
	checkState(t, a, true, 2, false)
	checkDo(t, a, abort(), fine)
	checkState(t, a, false, 2, false)
	checkLost(t, a, 5, fine, false)
	checkState(t, a, false, 2, false)
	checkDo(t, a, begin(), fine)
	checkState(t, a, true, 3, false)
}

// inStates are agents in all states that there are, each with the same pages.
func inStates(t *testing.T) map[string]*agent.Agent {
	t.Helper()
	list := map[string]*agent.Agent{"new": agent.New(2)}
	for _, what := range []string{"ended", "open", "reads", "writes", "commits"} {
		a := with(t, 2, have{1, 7, 3}, have{4, all, all})
		if what != "ended" {
			checkDo(t, a, begin(), fine)
			checkDo(t, a, write(1, 0, 50), fine)
			checkDo(t, a, read(1, 2), valued(values(1)[2]))
		}
		switch what {
		case "reads":
			checkDo(t, a, read(1, 3), waiting, askRead(1, 3))
		case "writes":
			checkDo(t, a, write(1, 2, 60), waiting, askWrite(1, 2))
		case "commits":
			checkDo(t, a, commit(), waiting, commits(3, put(1, 0, 50)))
		}
		list[what] = a
	}
	return list
}

// P17.2: kinds that there aren't are ErrPlace, ahead of ErrState.
func TestNoKind(t *testing.T) {
	for _, a := range inStates(t) {
		for _, kind := range wrong(5) {
			for _, page := range []int{0, 1, 5, -1, 6} {
				checkDo(t, a, api.Op{Kind: kind, Page: page, Obj: 1, Value: 2}, failed(api.ErrPlace))
			}
		}
	}
}

// P17.2: pages and objects that there aren't are ErrPlace for reads and writes, ahead of ErrState.
func TestNoPlace(t *testing.T) {
	for _, a := range inStates(t) {
		for _, kind := range []int{api.OpRead, api.OpWrite} {
			for _, page := range wrong(pages) {
				for obj := range objs {
					checkDo(t, a, api.Op{Kind: kind, Page: page, Obj: obj}, failed(api.ErrPlace))
				}
			}
			for _, obj := range wrong(objs) {
				for page := range pages {
					checkDo(t, a, api.Op{Kind: kind, Page: page, Obj: obj}, failed(api.ErrPlace))
				}
				checkDo(t, a, api.Op{Kind: kind, Page: obj, Obj: obj}, failed(api.ErrPlace))
			}
		}
	}
}

// P17.2: all pages and objects that there are are no error.
func TestAllPlaces(t *testing.T) {
	for page := range pages {
		for obj := range objs {
			a := begun(t, 2)
			checkDo(t, a, read(page, obj), waiting, askRead(page, obj))
			a = begun(t, 2)
			checkDo(t, a, write(page, obj, 1), waiting, askWrite(page, obj))
		}
	}
}

// P17.2: OpBegin, OpCommit and OpAbort don't look at Page, Obj and Value.
func TestPlacesThatDontMatter(t *testing.T) {
	for _, page := range append(wrong(pages), 0, 3) {
		for _, obj := range append(wrong(objs), 0, 2) {
			at := func(kind int) api.Op { return api.Op{Kind: kind, Page: page, Obj: obj, Value: 9} }
			a := agent.New(2)
			checkDo(t, a, at(api.OpCommit), failed(api.ErrState))
			checkDo(t, a, at(api.OpAbort), failed(api.ErrState))
			checkDo(t, a, at(api.OpBegin), fine)
			checkDo(t, a, at(api.OpBegin), failed(api.ErrState))
			checkDo(t, a, at(api.OpAbort), fine)
			checkDo(t, a, at(api.OpBegin), fine)
			checkDo(t, a, at(api.OpCommit), waiting, commits(2))
			checkDo(t, a, at(api.OpBegin), failed(api.ErrState))
			checkTold(t, a, done(2), fine)
		}
	}
}

// P17.2: ErrState, while it waits, while it is open for OpBegin, and while it isn't for others.
func TestCantBeAskedNow(t *testing.T) {
	list := []api.Op{begin(), read(1, 0), read(1, 2), read(1, 3), read(0, 0), write(1, 0, 9), write(1, 2, 9), write(4, 0, 9), write(5, 3, 9), commit(), abort()}
	for what, a := range inStates(t) {
		for _, o := range list {
			refused := what != "open"
			if o.Kind == api.OpBegin {
				refused = what != "new" && what != "ended"
			}
			if refused {
				checkDo(t, a, o, failed(api.ErrState))
			}
		}
	}
}

// P17.2: the transaction is one more with each OpBegin, and open; the next one knows nothing of what the last one did.
func TestBegin(t *testing.T) {
	a := agent.New(2)
	for txn := 1; txn <= 300; txn++ {
		checkDo(t, a, begin(), fine)
		checkState(t, a, true, txn, false)
		if txn%3 == 0 {
			checkDo(t, a, abort(), fine)
			continue
		}
		checkDo(t, a, commit(), waiting, commits(txn))
		if txn%3 == 1 {
			checkTold(t, a, done(txn), fine)
		} else {
			checkTold(t, a, fail(txn, 61), failed(61))
		}
	}
}

// P17.2: behind the transaction MaxNum there is no other one.
func TestNoMoreTransactions(t *testing.T) {
	a := with(t, 2, have{2, all, all})
	for range api.MaxNum - 2 {
		a.Do(begin())
		a.Do(abort())
	}
	checkDo(t, a, begin(), fine)
	checkState(t, a, true, api.MaxNum, false)
	checkDo(t, a, begin(), failed(api.ErrState))
	checkDo(t, a, write(2, 1, 7), fine)
	checkDo(t, a, commit(), waiting, commits(api.MaxNum, put(2, 1, 7)))
	checkNothing(t, a, done(api.MaxNum-1))
	checkTold(t, a, done(api.MaxNum), fine)
	for range 3 {
		checkDo(t, a, begin(), failed(api.ErrState))
		checkState(t, a, false, api.MaxNum, false)
	}
	checkLost(t, a, 5, fine, false)
	checkDo(t, a, begin(), failed(api.ErrState))
	checkState(t, a, false, api.MaxNum, false)
}

// P17.2: what is a copy is read without a message, as often as it is asked for, and is in use for who would write it.
func TestReadOfCopy(t *testing.T) {
	for copies := 1; copies <= all; copies++ {
		a := begun(t, 2, have{3, copies, 0})
		for obj := range objs {
			if copies>>obj&1 == 1 {
				checkDo(t, a, read(3, obj), valued(values(3)[obj]))
				checkDo(t, a, read(3, obj), valued(values(3)[obj]))
				checkSaid(t, a, call(3, obj, true), busy(3, obj, true))
				checkDo(t, a, read(3, obj), valued(values(3)[obj]))
			}
		}
		checkMasks(t, a, 3, copies, 0)
	}
}

// P17.2: a read uses the page, so another one goes; a write doesn't, nor does the read of what was written.
func TestReadUsesThePage(t *testing.T) {
	want := func(goes int, ops ...api.Op) {
		t.Helper()
		a := begun(t, 2, have{3, all, all}, have{5, all, all})
		for _, o := range ops {
			if list, x := a.Do(o); len(list) > 0 || x.Waits {
				t.Errorf("%+v: %+v %+v", o, list, x)
			}
		}
		checkDo(t, a, abort(), fine)
		checkDo(t, a, begin(), fine)
		checkDo(t, a, read(0, 0), waiting, askRead(0, 0))
		checkTold(t, a, grant(0, 1, 0), valued(values(0)[0]), release(goes, all, all))
	}
	want(3)
	want(5, read(3, 2))
	want(3, read(3, 2), read(5, 0))
	want(3, write(3, 2, 1))
	want(3, write(3, 2, 1), read(3, 2))
	want(5, write(3, 2, 1), read(3, 1))
}

// P17.2: of what it wrote that value is read, the last one, and it isn't read by that.
func TestReadOfWritten(t *testing.T) {
	a := begun(t, 2, have{3, all, 6})
	checkDo(t, a, write(3, 1, 70), fine)
	checkDo(t, a, read(3, 1), valued(70))
	checkDo(t, a, write(3, 1, 80), fine)
	checkDo(t, a, read(3, 1), valued(80))
	checkDo(t, a, read(3, 2), valued(values(3)[2]))
	checkDo(t, a, abort(), fine)
	checkDo(t, a, begin(), fine)
	checkDo(t, a, read(3, 1), valued(values(3)[1]))
}

// P17.2: what it wrote is read so also where the cache has no copy of it any more, or not even the page.
func TestReadOfWrittenWithoutCopy(t *testing.T) {
	for _, copies := range []int{8, 9, 1, 0} {
		a := begun(t, 2, have{3, 7, 7})
		checkDo(t, a, write(3, 1, 70), fine)
		checkDo(t, a, read(3, 3), waiting, askRead(3, 3))
		if copies>>3 == 1 {
			checkTold(t, a, grant(3, copies, copies), valued(values(3)[3]))
		} else {
			checkTold(t, a, grant(3, copies, copies), failed(api.ErrState))
		}
		checkMasks(t, a, 3, copies, copies)
		checkDo(t, a, read(3, 1), valued(70))
		checkDo(t, a, write(3, 1, 75), waiting, askWrite(3, 1))
		checkTold(t, a, grant(3, copies, copies), failed(api.ErrState))
		checkDo(t, a, read(3, 1), valued(70))
		checkDo(t, a, commit(), waiting, commits(2, put(3, 1, 70)))
		checkTold(t, a, done(2), fine)
		checkMasks(t, a, 3, copies, copies)
		checkDo(t, a, begin(), fine)
		checkDo(t, a, read(3, 1), waiting, askRead(3, 1))
	}
}

// P17.2: what was written and then read is in use as what was written alone is, and uses no page by that.
func TestReadOfWrittenIsInUse(t *testing.T) {
	for _, ops := range [][]api.Op{{write(3, 0, 70)}, {write(3, 0, 70), read(3, 0)}} {
		a := begun(t, 2, have{3, 1, 1}, have{4, 1, 1})
		for _, o := range ops {
			a.Do(o)
		}
		checkSaid(t, a, call(3, 0, true), busy(3, 0, true))
		checkSaid(t, a, call(3, 0, false), busy(3, 0, false))
		checkDo(t, a, abort(), fine, release(3, 1, 1), release(3, 0, 1))
		checkMasks(t, a, 3, 0, 0)
	}
}

// P17.2: what is no copy is asked for: the object isn't there, or the page isn't.
func TestReadOfNoCopy(t *testing.T) {
	for copies := range all {
		for obj := range objs {
			if copies>>obj&1 == 1 {
				continue
			}
			a := begun(t, 2)
			if copies > 0 {
				a = begun(t, 2, have{3, copies, copies})
			}
			checkDo(t, a, read(3, obj), waiting, askRead(3, obj))
			checkState(t, a, true, a.Txn(), true)
			checkMasks(t, a, 3, copies, copies)
		}
	}
}

// P17.2: what is owned is written without a message, and the cache doesn't have it yet.
func TestWriteOfOwned(t *testing.T) {
	for own := 1; own <= all; own++ {
		a := begun(t, 2, have{3, all, own})
		var puts []api.Put
		for obj := range objs {
			if own>>obj&1 == 1 {
				checkDo(t, a, write(3, obj, 100), fine)
				checkDo(t, a, write(3, obj, complex(200, float64(obj))), fine)
				checkSaid(t, a, call(3, obj, false), busy(3, obj, false))
				puts = append(puts, put(3, obj, complex(200, float64(obj))))
			}
		}
		checkMasks(t, a, 3, all, own)
		checkDo(t, a, commit(), waiting, commits(2, puts...))
		a = begun(t, 2, have{3, all, own})
		checkDo(t, a, write(3, lowest(own), 5), fine)
		checkDo(t, a, abort(), fine)
		checkDo(t, a, begin(), fine)
		checkDo(t, a, read(3, lowest(own)), valued(values(3)[lowest(own)]))
	}
}

// P17.2: what isn't owned is asked for: a copy, an object that isn't there, a page that isn't.
func TestWriteOfNotOwned(t *testing.T) {
	for copies := range all + 1 {
		for obj := range objs {
			own := copies &^ (1 << obj)
			a := begun(t, 2)
			if copies > 0 {
				a = begun(t, 2, have{3, copies, own})
			}
			checkDo(t, a, write(3, obj, 7), waiting, askWrite(3, obj))
			checkState(t, a, true, a.Txn(), true)
			checkMasks(t, a, 3, copies, own)
			checkSaid(t, a, call(3, obj, true), release(3, 1<<obj, 1<<obj))
		}
	}
}

// P17.2: nothing is written by a write that was asked for and not granted.
func TestWriteThatFails(t *testing.T) {
	a := begun(t, 2, have{3, 1, 0})
	checkDo(t, a, write(3, 0, 7), waiting, askWrite(3, 0))
	checkTold(t, a, grant(3, 1, 0), failed(api.ErrState))
	checkState(t, a, true, 2, false)
	checkDo(t, a, read(3, 0), valued(values(3)[0]))
	checkDo(t, a, commit(), waiting, commits(2))
}

// P17.2: a commit has what was written alone, by pages and then by objects, whatever the order of the writes; it isn't
// in the cache before it is done.
func TestCommit(t *testing.T) {
	a := begun(t, 6, have{5, all, all}, have{0, all, all}, have{3, all, all})
	checkDo(t, a, write(5, 3, 1), fine)
	checkDo(t, a, write(3, 0, 2), fine)
	checkDo(t, a, write(0, 2, 3), fine)
	checkDo(t, a, write(5, 0, 4), fine)
	checkDo(t, a, read(3, 1), valued(values(3)[1]))
	checkDo(t, a, write(0, 1, 5), fine)
	checkDo(t, a, write(5, 3, 6), fine)
	checkDo(t, a, write(3, 0, 0), fine)
	checkDo(t, a, commit(), waiting, commits(4, put(0, 1, 5), put(0, 2, 3), put(3, 0, 0), put(5, 0, 4), put(5, 3, 6)))
	checkState(t, a, true, 4, true)
	checkTold(t, a, fail(4, 61), failed(61))
	checkDo(t, a, begin(), fine)
	for _, page := range []int{5, 0, 3} {
		for obj := range objs {
			checkDo(t, a, read(page, obj), valued(values(page)[obj]))
		}
	}
	checkDo(t, a, commit(), waiting, commits(5))
}

// P17.2: a commit has up to all objects of all pages, whatever their order.
func TestCommitOfAll(t *testing.T) {
	var list []have
	for page := range pages {
		list = append(list, have{(5 * page) % pages, all, all})
	}
	for step := 1; step < 24; step += 2 {
		if step%3 == 0 {
			continue
		}
		a := begun(t, 6, list...)
		var puts []api.Put
		for k := range pages * objs {
			at := k * step % (pages * objs)
			checkDo(t, a, write(at/objs, at%objs, complex(float64(at), float64(step))), fine)
			puts = append(puts, put(k/objs, k%objs, complex(float64(k), float64(step))))
		}
		sent := commits(7, puts...)
		if !msg.Right(sent) {
			t.Fatal("the test's own message isn't right")
		}
		checkDo(t, a, commit(), waiting, sent)
		checkTold(t, a, done(7), fine)
		checkDo(t, a, begin(), fine)
		for _, p := range puts {
			checkDo(t, a, read(p.Page, p.Obj), valued(p.Value))
		}
	}
}

// P17.2: with OpAbort it ends: what was read or written is forgotten, what the cache has stays.
func TestAbort(t *testing.T) {
	a := begun(t, 2, have{3, 7, 3}, have{4, all, all})
	checkDo(t, a, read(3, 2), valued(values(3)[2]))
	checkDo(t, a, write(3, 0, 70), fine)
	checkDo(t, a, write(4, 1, 80), fine)
	checkDo(t, a, abort(), fine)
	checkState(t, a, false, 3, false)
	checkMasks(t, a, 3, 7, 3)
	checkMasks(t, a, 4, all, all)
	checkDo(t, a, begin(), fine)
	checkDo(t, a, read(3, 0), valued(values(3)[0]))
	checkDo(t, a, read(4, 1), valued(values(4)[1]))
	checkDo(t, a, abort(), fine)
	checkSaid(t, a, call(3, 2, true), release(3, 4, 4))
	checkSaid(t, a, call(3, 0, true), release(3, 1, 1))
	checkSaid(t, a, call(4, 1, false), release(4, 0, all))
}

// odd are values whose bits matter: what is not a number, infinite, and zeros of both signs.
func odd() []complex128 {
	minus := math.Copysign(0, -1)
	return []complex128{complex(math.NaN(), 1), complex(1, math.NaN()), complex(math.NaN(), math.NaN()), complex(math.Inf(1), math.Inf(-1)),
		complex(minus, 0), complex(0, minus), complex(minus, minus), 0, complex(math.MaxFloat64, math.SmallestNonzeroFloat64)}
}

// P17.2, P17.3: values are kept as they are: granted, written, sent, and laid into the cache.
func TestOddValues(t *testing.T) {
	for _, v := range odd() {
		a := begun(t, 2)
		checkDo(t, a, read(3, 2), waiting, askRead(3, 2))
		m := grant(3, all, all)
		m.Values[2] = v
		checkTold(t, a, m, valued(v))
		checkDo(t, a, read(3, 2), valued(v))
		checkDo(t, a, write(3, 1, v), fine)
		checkDo(t, a, read(3, 1), valued(v))
		checkDo(t, a, commit(), waiting, commits(1, put(3, 1, v)))
		checkTold(t, a, done(1), fine)
		checkDo(t, a, begin(), fine)
		checkDo(t, a, read(3, 1), valued(v))
		checkDo(t, a, write(4, 0, v), waiting, askWrite(4, 0))
		checkTold(t, a, grant(4, 1, 1), fine)
		checkDo(t, a, read(4, 0), valued(v))
		checkDo(t, a, commit(), waiting, commits(2, put(4, 0, v)))
	}
}
