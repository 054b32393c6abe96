package wal_test

import (
	"bytes"
	"fmt"
	"math"
	"slices"
	"testing"

	"cloakroom/api"
	"cloakroom/tape"
	"cloakroom/wal"
)

const mostTape = 20000

// taped is a tape with much room, with these bytes that are safe and those behind them that aren't.
func taped(t *testing.T, safe, loose []byte) *tape.Tape {
	t.Helper()
	x := tape.New(mostTape)
	if e := x.Append(safe); e != api.OK {
		t.Fatal(e)
	}
	x.Sync()
	if e := x.Append(loose); e != api.OK {
		t.Fatal(e)
	}
	return x
}

// checkTape asks for what is on the tape: these Batches' bytes, and so many of them safe.
func checkTape(t *testing.T, x *tape.Tape, safe int, want ...api.Batch) {
	t.Helper()
	if got := x.Bytes(); !bytes.Equal(got, row(want...)) || x.Safe() != safe {
		found, _ := wal.Scan(got)
		t.Errorf("on the tape is %s (%d bytes, %d safe), not %s (%d, %d)", told(found), len(got), x.Safe(), told(want), len(row(want...)), safe)
	}
}

// checkLog asks for all that a log tells.
func checkLog(t *testing.T, l *wal.Log, last, durable int, commits ...api.Batch) {
	t.Helper()
	if l.Last() != last || l.Durable() != durable {
		t.Errorf("Last %d, Durable %d, not %d, %d", l.Last(), l.Durable(), last, durable)
	}
	if got := l.Commits(); told(got) != told(commits) {
		t.Errorf("Commits are %s, not %s", told(got), told(commits))
	}
}

func checkAppend(t *testing.T, l *wal.Log, b api.Batch, lsn int, want api.Errno) {
	t.Helper()
	if n, e := l.Append(b); n != lsn || e != want {
		t.Errorf("Append of %s: %d, %d, not %d, %d", told([]api.Batch{b}), n, e, lsn, want)
	}
}

func checkMark(t *testing.T, l *wal.Log, want api.Errno) {
	t.Helper()
	if e := l.Mark(); e != want {
		t.Errorf("Mark: %d, not %d", e, want)
	}
}

// P7.2 and P7.4: the chapter's example.
func TestExample(t *testing.T) {
	x := tape.New(mostTape)
	l := wal.Open(x)
	one, two := commit(1, 0, 1, 1, put(0, 0, 1)), commit(2, 1, 1, 1, put(0, 1, 2))
	checkAppend(t, l, one, 1, api.OK)
	checkAppend(t, l, two, 2, api.OK)
	l.Force()
	checkAppend(t, l, commit(0, 2, 1, 1, put(0, 2, 3)), 3, api.OK)
	x.Crash(0)
	l = wal.Open(x)
	checkLog(t, l, 2, 2, one, two)
	checkAppend(t, l, commit(0, 3, 1, 1), 3, api.OK)
	checkLog(t, l, 3, 2, one, two, commit(3, 3, 1, 1))
}

// P7.2 Open: a tape with nothing on it, whatever its room.
func TestOpenOfNothing(t *testing.T) {
	for _, room := range []int{math.MinInt, 0, 19, 20, mostTape, math.MaxInt} {
		x := tape.New(room)
		checkLog(t, wal.Open(x), 0, 0)
		checkTape(t, x, 0)
	}
}

// P7.2 Open: whole Batches stay, as safe as they were, and LAST is the last one's LSN, be it a COMMIT or a MARK.
func TestOpenOfWholeBatches(t *testing.T) {
	all := some()
	for from := range all {
		for to := from + 1; to <= len(all); to++ {
			for whole := from; whole <= to; whole++ {
				safe := row(all[from:whole]...)
				x := taped(t, safe, row(all[whole:to]...))
				l := wal.Open(x)
				checkTape(t, x, len(safe), all[from:to]...)
				durable := 0
				if whole > from {
					durable = all[whole-1].LSN
				}
				checkLog(t, l, all[to-1].LSN, durable, commitsOf(all[from:to])...)
				checkAppend(t, l, commit(0, 0, 1, 1), all[to-1].LSN+1, api.OK)
			}
		}
	}
}

// commitsOf leaves out the MARKs.
func commitsOf(batches []api.Batch) []api.Batch {
	var l []api.Batch
	for _, b := range batches {
		if b.Txn != 0 {
			l = append(l, b)
		}
	}
	return l
}

// P7.2 Open: what is behind the whole Batches is cut off, safe or not; the next commit is behind them.
func TestOpenCuts(t *testing.T) {
	all := []api.Batch{commit(4, 0, 1, 1, places(2)...), mark(4), commit(5, 1, 1, 1)}
	whole := row(all...)
	behind := [][]byte{{0}, {0, 0, 17}, form(commit(6, 0, 1, 1))[:19], form(commit(6, 0, 1, 1, places(24)...))[:500], form(commit(5, 0, 1, 1)), form(commit(7, 0, 1, 1)), form(mark(6)), form(mark(4)),
		slices.Concat([]byte{9}, form(commit(6, 0, 1, 1))), sealed(head(6, 4, 1, 1, 0)), make([]byte, 3000)}
	next := commit(6, 3, 2, 1, put(1, 1, 1i))
	for _, part := range behind {
		bytes := slices.Concat(whole, part)
		for _, safe := range []int{0, 1, len(form(all[0])), len(whole) - 1, len(whole), len(whole) + 1, len(bytes)} {
			x := taped(t, bytes[:safe], bytes[safe:])
			l := wal.Open(x)
			checkTape(t, x, min(safe, len(whole)), all...)
			durable := 0
			if safe >= len(whole) {
				durable = 5
			} else if safe >= len(form(all[0])) {
				durable = 4
			}
			checkLog(t, l, 5, durable, all[0], all[2])
			checkAppend(t, l, next, 6, api.OK)
			checkTape(t, x, min(safe, len(whole)), all[0], all[1], all[2], next)
			checkLog(t, wal.Open(x), 6, durable, all[0], all[2], next)
		}
	}
}

// P7.2 Open: bytes that begin with no Batch are all cut off.
func TestOpenOfOtherBytes(t *testing.T) {
	for _, other := range [][]byte{{0}, {0, 0, 0}, form(mark(3))[:19], form(mark(3))[1:], make([]byte, mostTape), bytes.Repeat([]byte("cloak"), 100)} {
		for _, safe := range []int{0, 1, len(other)} {
			x := taped(t, other[:safe], other[safe:])
			l := wal.Open(x)
			checkTape(t, x, 0)
			checkLog(t, l, 0, 0)
			checkAppend(t, l, commit(0, 0, 1, 1), 1, api.OK)
			checkTape(t, x, 0, commit(1, 0, 1, 1))
		}
	}
}

// P7.2 Open: a tape whose Limit is below what is on it loses nothing by it.
func TestOpenWithoutRoom(t *testing.T) {
	x := taped(t, row(some()...), nil)
	x.Limit(0)
	l := wal.Open(x)
	checkTape(t, x, len(row(some()...)), some()...)
	checkLog(t, l, 10, 10, commitsOf(some())...)
	checkAppend(t, l, commit(0, 0, 1, 1), 0, api.ErrFull)
	checkMark(t, l, api.ErrFull)
	checkTape(t, x, len(row(some()...)), some()...)
}

// P7.2 Append: the LSN is one more than LAST, whatever the Batch has.
func TestAppendWhateverTheLSN(t *testing.T) {
	x := tape.New(mostTape)
	l := wal.Open(x)
	var all []api.Batch
	for k, lsn := range append(slices.Clone(edges), 2, 5, 11, maxNum-1) {
		b := commit(lsn, k%4, k+1, maxNum-k, places(2*k)...)
		checkAppend(t, l, b, k+1, api.OK)
		b.LSN = k + 1
		all = append(all, b)
		checkTape(t, x, 0, all...)
		checkLog(t, l, k+1, 0, all...)
	}
}

// wrongBatches holds what is no COMMIT, whatever its LSN; MARKs among it.
func wrongBatches() []api.Batch {
	var l []api.Batch
	for _, n := range edges {
		if n < 1 || n > maxNum {
			l = append(l, commit(1, 0, n, 1), commit(1, 0, 1, n))
		}
		if n < 0 || n > 3 {
			l = append(l, commit(1, n, 1, 1), commit(1, n, 0, 0))
		}
		l = append(l, mark(n), commit(n, 0, 0, 0, put(0, 0, 0)))
	}
	for _, p := range []api.Put{put(-1, 0, 0), put(6, 0, 0), put(0, -1, 0), put(0, 4, 0), put(math.MinInt, 0, 0), put(math.MaxInt, 0, 0), put(0, math.MaxInt, 0)} {
		l = append(l, commit(1, 0, 1, 1, p), commit(1, 0, 1, 1, put(0, 0, 0), p))
	}
	return append(l, commit(1, 0, 1, 1, put(1, 0, 0), put(0, 0, 0)), commit(1, 0, 1, 1, put(0, 1, 0), put(0, 0, 0)),
		commit(1, 0, 1, 1, put(2, 2, 0), put(2, 2, 0)), commit(1, 0, 1, 1, places(25)...))
}

// P7.2 Append: ErrWal and 0 for what is no COMMIT, with room and without; nothing changes.
func TestAppendOfWhatIsNoCommit(t *testing.T) {
	one, two := commit(1, 0, 1, 1, places(3)...), commit(2, 1, 1, 1)
	for _, limit := range []int{mostTape, 0} {
		for _, b := range wrongBatches() {
			x := tape.New(mostTape)
			l := wal.Open(x)
			checkAppend(t, l, b, 0, api.ErrWal)
			checkTape(t, x, 0)
			checkLog(t, l, 0, 0)
			checkAppend(t, l, one, 1, api.OK)
			l.Force()
			checkAppend(t, l, two, 2, api.OK)
			x.Limit(limit)
			checkAppend(t, l, b, 0, api.ErrWal)
			checkTape(t, x, len(form(one)), one, two)
			checkLog(t, l, 2, 1, one, two)
			x.Limit(mostTape)
			checkAppend(t, l, commit(9, 2, 1, 1), 3, api.OK)
			checkLog(t, l, 3, 1, one, two, commit(3, 2, 1, 1))
		}
	}
}

// P7.2 Append: just as much room as it needs, and one byte less: ErrFull and 0, and nothing changes.
func TestAppendWithoutRoom(t *testing.T) {
	for _, many := range []int{0, 1, 7, 24} {
		one, two := commit(1, 0, 1, 1), commit(2, 3, 4, 5, places(many)...)
		size := len(row(one, two))
		for _, room := range []int{math.MinInt, 0, 19, 20, 21, size - 1} {
			x := tape.New(20)
			l := wal.Open(x)
			checkAppend(t, l, one, 1, api.OK)
			x.Limit(room)
			for range 2 {
				checkAppend(t, l, two, 0, api.ErrFull)
				checkTape(t, x, 0, one)
				checkLog(t, l, 1, 0, one)
			}
			x.Limit(size)
			checkAppend(t, l, two, 2, api.OK)
			checkTape(t, x, 0, one, two)
			checkLog(t, l, 2, 0, one, two)
		}
	}
}

// P7.2 Append: till the tape is full, as many as have room.
func TestAppendTillFull(t *testing.T) {
	for _, many := range []int{0, 1, 24} {
		x := tape.New(mostTape)
		l := wal.Open(x)
		b := commit(0, 0, 1, 1, places(many)...)
		fits := mostTape / len(form(b))
		for k := range fits {
			checkAppend(t, l, b, k+1, api.OK)
		}
		checkAppend(t, l, b, 0, api.ErrFull)
		l.Force()
		if l.Last() != fits || l.Durable() != fits || len(l.Commits()) != fits {
			t.Error(l.Last(), l.Durable(), len(l.Commits()), fits)
		}
	}
}

// P7.2 Append: at LAST 16777215 there are no more LSNs: ErrWal, also where there is no room.
func TestAppendWithoutLSNs(t *testing.T) {
	b := commit(3, 0, 1, 1, places(2)...)
	lastOne := commit(maxNum, 0, 1, 1, places(2)...)
	x := taped(t, form(mark(maxNum-1)), nil)
	l := wal.Open(x)
	checkLog(t, l, maxNum-1, maxNum-1)
	checkAppend(t, l, b, maxNum, api.OK)
	checkLog(t, l, maxNum, maxNum-1, lastOne)
	for _, limit := range []int{mostTape, 0} {
		x.Limit(limit)
		for _, other := range append(wrongBatches(), b, lastOne, commit(1, 0, 1, 1), commit(maxNum+1, 0, 1, 1)) {
			checkAppend(t, l, other, 0, api.ErrWal)
			checkLog(t, l, maxNum, maxNum-1, lastOne)
			checkTape(t, x, 20, mark(maxNum-1), lastOne)
		}
	}
	checkMark(t, l, api.ErrFull)
	x.Limit(mostTape)
	checkMark(t, l, api.OK)
	checkLog(t, l, maxNum, maxNum)
	checkTape(t, x, 20, mark(maxNum))
	for _, again := range []*wal.Log{l, wal.Open(x)} {
		checkAppend(t, again, b, 0, api.ErrWal)
		checkLog(t, again, maxNum, maxNum)
	}
}

// P7.2 Last, Durable, Commits and Force: ahead of a Force and behind one, on a tape with nothing on it too.
func TestForce(t *testing.T) {
	x := tape.New(mostTape)
	l := wal.Open(x)
	checkLog(t, l, 0, 0)
	l.Force()
	checkLog(t, l, 0, 0)
	var all []api.Batch
	durable := 0
	for k := 1; k <= 12; k++ {
		b := commit(k, k%4, 1, k, places(k)...)
		checkAppend(t, l, b, k, api.OK)
		all = append(all, b)
		checkLog(t, l, k, durable, all...)
		if k%3 == 0 {
			for range 2 {
				l.Force()
				checkLog(t, l, k, k, all...)
				checkTape(t, x, len(row(all...)), all...)
			}
			durable = k
		}
	}
}

// P7.2 Durable: the last one that is whole of what is safe, with every number of safe bytes.
func TestDurableOfAPart(t *testing.T) {
	all := some()
	bytes := row(all...)
	for safe := range len(bytes) + 1 {
		durable := 0
		for k := range all {
			if len(row(all[:k+1]...)) <= safe {
				durable = all[k].LSN
			}
		}
		x := taped(t, bytes[:safe], bytes[safe:])
		l := wal.Open(x)
		checkLog(t, l, 10, durable, commitsOf(all)...)
		checkTape(t, x, safe, all...)
		l.Force()
		checkLog(t, l, 10, 10, commitsOf(all)...)
	}
}

// P7.2 Durable and Commits: what is on the tape is asked each time, LAST is kept.
func TestTapeThatChangesBehindALog(t *testing.T) {
	x := tape.New(mostTape)
	l := wal.Open(x)
	one, two := commit(1, 0, 1, 1), commit(2, 0, 1, 2)
	checkAppend(t, l, one, 1, api.OK)
	x.Sync()
	checkLog(t, l, 1, 1, one)
	checkAppend(t, l, two, 2, api.OK)
	x.Crash(19)
	checkLog(t, l, 2, 1, one)
	x.Cut(0)
	checkLog(t, l, 2, 0)
	checkMark(t, l, api.OK)
	checkLog(t, l, 2, 2)
	checkTape(t, x, 20, mark(2))
	x.Append(form(commit(3, 1, 1, 1)))
	checkLog(t, l, 2, 2, commit(3, 1, 1, 1))
	checkMark(t, l, api.OK)
	checkTape(t, x, 20, mark(2))
}

// P7.3 Mark: with nothing on the log: a MARK with LSN 0 alone is on the tape.
func TestMarkOfNothing(t *testing.T) {
	x := tape.New(mostTape)
	l := wal.Open(x)
	for range 3 {
		checkMark(t, l, api.OK)
		checkTape(t, x, 20, mark(0))
		checkLog(t, l, 0, 0)
		checkLog(t, wal.Open(x), 0, 0)
	}
	checkAppend(t, l, commit(7, 0, 1, 1), 1, api.OK)
	checkTape(t, x, 20, mark(0), commit(1, 0, 1, 1))
}

// P7.3 Mark: behind commits, Forced or not: they are gone, LAST stays, is Durable, and the LSNs go on from it.
func TestMark(t *testing.T) {
	for forced := range 5 {
		x := tape.New(mostTape)
		l := wal.Open(x)
		for k := 1; k <= 4; k++ {
			checkAppend(t, l, commit(0, 0, 1, k, places(k)...), k, api.OK)
			if k == forced {
				l.Force()
			}
		}
		for range 2 {
			checkMark(t, l, api.OK)
			checkTape(t, x, 20, mark(4))
			checkLog(t, l, 4, 4)
		}
		five, six := commit(5, 1, 1, 1), commit(6, 2, 1, 1, places(9)...)
		checkAppend(t, l, five, 5, api.OK)
		checkLog(t, l, 5, 4, five)
		again := wal.Open(x)
		checkLog(t, again, 5, 4, five)
		checkAppend(t, again, six, 6, api.OK)
		checkTape(t, x, 20, mark(4), five, six)
		again.Force()
		checkLog(t, again, 6, 6, five, six)
		checkMark(t, again, api.OK)
		checkTape(t, x, 20, mark(6))
	}
}

// P7.3 Mark: the MARK needs room behind all that is there; where there is none: ErrFull, and nothing changes.
func TestMarkWithoutRoom(t *testing.T) {
	one, two := commit(1, 0, 1, 1, places(4)...), commit(2, 1, 1, 1)
	size := len(row(one, two))
	for _, room := range []int{math.MinInt, -1, 0, 1, 20, size - 1, size, size + 1, size + 19} {
		x := tape.New(mostTape)
		l := wal.Open(x)
		checkAppend(t, l, one, 1, api.OK)
		l.Force()
		checkAppend(t, l, two, 2, api.OK)
		x.Limit(room)
		for range 2 {
			checkMark(t, l, api.ErrFull)
			checkTape(t, x, len(form(one)), one, two)
			checkLog(t, l, 2, 1, one, two)
		}
		x.Limit(size + 20)
		checkMark(t, l, api.OK)
		checkTape(t, x, 20, mark(2))
		checkLog(t, l, 2, 2)
	}
	for room := range 20 {
		x := tape.New(room)
		l := wal.Open(x)
		checkMark(t, l, api.ErrFull)
		checkTape(t, x, 0)
		checkLog(t, l, 0, 0)
	}
	checkMark(t, wal.Open(tape.New(20)), api.OK)
}

// P7.3 Mark: what is dropped is room for later commits.
func TestMarkMakesRoom(t *testing.T) {
	b := commit(0, 0, 1, 1, places(2)...)
	x := tape.New(3*len(form(b)) + 20)
	l := wal.Open(x)
	last := 0
	for range 50 {
		for range 2 {
			last++
			checkAppend(t, l, b, last, api.OK)
		}
		checkMark(t, l, api.OK)
		checkLog(t, l, last, last)
	}
	for range 3 {
		last++
		checkAppend(t, l, b, last, api.OK)
	}
	checkAppend(t, l, b, 0, api.ErrFull)
	checkMark(t, l, api.ErrFull)
	if l.Last() != last || l.Durable() != last-3 || len(l.Commits()) != 3 {
		t.Error(l.Last(), l.Durable(), len(l.Commits()))
	}
}

// P7.4: behind a crash with every number of kept bytes the Commits are the Durable ones and some behind, from the first one on.
func TestCrash(t *testing.T) {
	var all []api.Batch
	for k := 1; k <= 5; k++ {
		all = append(all, commit(k, k%4, 1, k, places(k-1)...))
	}
	for forced := range 6 {
		loose := len(row(all[forced:]...))
		keeps := []int{math.MinInt, -1, loose + 1, math.MaxInt}
		for keep := range loose + 1 {
			keeps = append(keeps, keep)
		}
		for _, keep := range keeps {
			x := tape.New(mostTape)
			l := wal.Open(x)
			for k, b := range all {
				checkAppend(t, l, b, k+1, api.OK)
				if k+1 == forced {
					l.Force()
				}
			}
			checkLog(t, l, 5, forced, all...)
			x.Crash(keep)
			there := forced
			for there < 5 && len(row(all[forced:there+1]...)) <= keep {
				there++
			}
			l = wal.Open(x)
			checkLog(t, l, there, there, all[:there]...)
			checkTape(t, x, len(row(all[:there]...)), all[:there]...)
			checkAppend(t, l, commit(9, 0, 9, 9), there+1, api.OK)
			checkLog(t, wal.Open(x), there+1, there, append(slices.Clone(all[:there]), commit(there+1, 0, 9, 9))...)
		}
	}
}

// P7.4: also behind a Mark: what it dropped is gone, LAST isn't.
func TestCrashBehindAMark(t *testing.T) {
	six, seven := commit(6, 0, 1, 1, places(2)...), commit(7, 1, 1, 1)
	for forced := range 3 {
		for keep := -1; keep <= len(row(six, seven))+1; keep++ {
			x := tape.New(mostTape)
			l := wal.Open(x)
			for k := range 5 {
				checkAppend(t, l, commit(0, 0, 1, 1, places(k)...), k+1, api.OK)
			}
			checkMark(t, l, api.OK)
			for k, b := range []api.Batch{six, seven} {
				checkAppend(t, l, b, b.LSN, api.OK)
				if k+1 == forced {
					l.Force()
				}
			}
			checkLog(t, l, 7, 5+forced, six, seven)
			kept := max(keep, 0) + len(row([]api.Batch{six, seven}[:forced]...))
			x.Crash(keep)
			l = wal.Open(x)
			switch {
			case kept >= len(row(six, seven)):
				checkLog(t, l, 7, 7, six, seven)
			case kept >= len(row(six)):
				checkLog(t, l, 6, 6, six)
				checkTape(t, x, 20+len(row(six)), mark(5), six)
			default:
				checkLog(t, l, 5, 5)
				checkTape(t, x, 20, mark(5))
			}
		}
	}
}

// fillPuts writes over a list of Puts and all of its spare room.
func fillPuts(list []api.Put) {
	list = list[:cap(list)]
	for i := range list {
		list[i] = put(99, 99, 99)
	}
}

func fillBytes(list []byte) {
	list = list[:cap(list)]
	for i := range list {
		list[i] = 99
	}
}

// fillBatches writes over a list of Batches, their Puts and all spare room.
func fillBatches(list []api.Batch) {
	list = list[:cap(list)]
	for i := range list {
		fillPuts(list[i].Puts)
		list[i] = commit(99, 99, 99, 99, put(99, 99, 99))
	}
}

// What is handed in is not changed, spare room included.
func TestArgumentsAreNotChanged(t *testing.T) {
	room := append(places(24), put(7, 7, 7), put(8, 8, 8), put(9, 9, 9))
	before := told([]api.Batch{commit(1, 2, 3, 4, room...)})
	x := tape.New(2000)
	l := wal.Open(x)
	for many := range 26 {
		b := commit(1, 2, 3, 4)
		b.Puts = room[:many]
		wal.Right(b)
		wal.Bytes(b)
		wal.Same([]api.Batch{b, b}, []api.Batch{b, b})
		l.Append(b)
		if many%5 == 0 {
			l.Mark()
		}
		if told([]api.Batch{b}) != told([]api.Batch{commit(1, 2, 3, 4, room[:many]...)}) || told([]api.Batch{commit(1, 2, 3, 4, room...)}) != before {
			t.Fatalf("%d Puts became others", many)
		}
	}
	bytes := append(row(some()...), 0, 0, 17, 1, 2, 3)
	spare := slices.Clone(bytes)
	for n := range bytes {
		wal.Scan(bytes[:n])
		if !slices.Equal(bytes, spare) {
			t.Fatalf("Scan of %d bytes changed them", n)
		}
	}
}

// What is handed in is not kept: what was appended, or found, stands when it is written over.
func TestArgumentsAreNotKept(t *testing.T) {
	x := tape.New(mostTape)
	l := wal.Open(x)
	b := commit(0, 0, 1, 1, places(5)...)
	checkAppend(t, l, b, 1, api.OK)
	fillPuts(b.Puts)
	checkLog(t, l, 1, 0, commit(1, 0, 1, 1, places(5)...))
	checkTape(t, x, 0, commit(1, 0, 1, 1, places(5)...))
	bytes := row(some()...)
	found, _ := wal.Scan(bytes)
	fillBytes(bytes)
	if told(found) != told(some()) {
		t.Errorf("what was found became %s", told(found))
	}
	form, _ := wal.Bytes(found[2])
	fillBatches(found)
	if !slices.Equal(form, row(some()[2])) {
		t.Errorf("the bytes became %x", form)
	}
}

// Answers are new memory: each stands when the others are written over, and so do the log and its tape.
func TestAnswersAreNewMemory(t *testing.T) {
	x := taped(t, row(some()...), nil)
	l := wal.Open(x)
	first, second := l.Commits(), l.Commits()
	fillBatches(first)
	if told(second) != told(commitsOf(some())) {
		t.Errorf("the second answer became %s", told(second))
	}
	fillBatches(second)
	checkLog(t, l, 10, 10, commitsOf(some())...)
	checkTape(t, x, len(row(some()...)), some()...)
	for _, b := range some() {
		one, _ := wal.Bytes(b)
		two, _ := wal.Bytes(b)
		fillBytes(one)
		if !slices.Equal(two, form(b)) {
			t.Errorf("the second answer became %x", two)
		}
	}
	checkBytes(t, mark(0), form(mark(0)))
}

// No two lists of one answer share any memory, spare room included.
func TestListsOfAnAnswerAreApart(t *testing.T) {
	var all []api.Batch
	for k := range 24 {
		all = append(all, commit(k+1, 0, 1, 1, places(k)...))
	}
	for k := range all {
		found, _ := wal.Scan(row(all...))
		fillPuts(found[k].Puts)
		kept := slices.Delete(slices.Clone(found), k, k+1)
		if told(kept) != told(slices.Delete(slices.Clone(all), k, k+1)) {
			t.Errorf("the Puts of %d share memory with others: %s", k, told(kept))
		}
	}
}

// An answer stands when the log goes on behind it.
func TestAnswersStand(t *testing.T) {
	x := tape.New(mostTape)
	l := wal.Open(x)
	one := commit(1, 0, 1, 1, places(3)...)
	checkAppend(t, l, one, 1, api.OK)
	commits := l.Commits()
	spare := told(commits[:cap(commits)])
	checkAppend(t, l, commit(0, 1, 1, 1, places(9)...), 2, api.OK)
	checkMark(t, l, api.OK)
	checkAppend(t, l, commit(0, 2, 1, 1, places(4)...), 3, api.OK)
	x.Crash(5)
	wal.Open(x)
	if told(commits) != told([]api.Batch{one}) || told(commits[:cap(commits)]) != spare {
		t.Errorf("the answer became %s", told(commits))
	}
}

// entry is a Batch of the log that the tests keep beside, with how many of its bytes are safe.
type entry struct {
	batch api.Batch
	safe  int
}

// beside is a log as the chapter tells it, Batch by Batch.
type beside struct {
	entries    []entry
	last, room int
}

func (m *beside) batches() []api.Batch {
	var l []api.Batch
	for _, e := range m.entries {
		l = append(l, e.batch)
	}
	return l
}

func (m *beside) safe() int {
	many := 0
	for _, e := range m.entries {
		many += e.safe
	}
	return many
}

func (m *beside) durable() int {
	lsn := 0
	for _, e := range m.entries {
		if e.safe < len(form(e.batch)) {
			return lsn
		}
		lsn = e.batch.LSN
	}
	return lsn
}

func (m *beside) add(b api.Batch) api.Errno {
	if len(row(m.batches()...))+len(form(b)) > m.room {
		return api.ErrFull
	}
	m.entries = append(m.entries, entry{batch: b})
	return api.OK
}

func (m *beside) append(b api.Batch, right bool) (int, api.Errno) {
	b.LSN = m.last + 1
	if !right || b.LSN > maxNum {
		return 0, api.ErrWal
	}
	if e := m.add(b); e != api.OK {
		return 0, e
	}
	m.last = b.LSN
	return m.last, api.OK
}

func (m *beside) force() {
	for i, e := range m.entries {
		m.entries[i].safe = len(form(e.batch))
	}
}

func (m *beside) mark() api.Errno {
	if e := m.add(mark(m.last)); e != api.OK {
		return e
	}
	m.force()
	m.entries = m.entries[len(m.entries)-1:]
	return api.OK
}

// crash is a crash of the tape and an Open: Batches are left while all their bytes are.
func (m *beside) crash(keep int) {
	keep = max(keep, 0)
	left := []entry{}
	m.last = 0
	for _, e := range m.entries {
		loose := len(form(e.batch)) - e.safe
		if loose > keep {
			break
		}
		keep -= loose
		left = append(left, e)
		m.last = e.batch.LSN
	}
	m.entries = left
	m.force()
}

// world is a log, its tape, and what the tests keep beside.
type world struct {
	x *tape.Tape
	l *wal.Log
	m *beside
}

func newWorld(room int) *world {
	x := tape.New(room)
	return &world{x: x, l: wal.Open(x), m: &beside{room: room}}
}

// step does call k with argument a, and tells what was answered, by the log and beside.
func (w *world) step(k, a int) (string, string) {
	switch k {
	case 0:
		b := commit(a, a%4, 1+a, 7, places(a)...)
		return fmt.Sprint(w.l.Append(b)), fmt.Sprint(w.m.append(b, true))
	case 1:
		wrong := wrongBatches()
		b := wrong[a%len(wrong)]
		return fmt.Sprint(w.l.Append(b)), fmt.Sprint(w.m.append(b, false))
	case 2:
		w.l.Force()
		w.m.force()
	case 3:
		return fmt.Sprint(w.l.Mark()), fmt.Sprint(w.m.mark())
	case 4:
		w.x.Crash(a)
		w.l = wal.Open(w.x)
		w.m.crash(a)
	case 5:
		w.x.Limit(a)
		w.m.room = a
	case 6:
		w.l = wal.Open(w.x)
	}
	return "", ""
}

// tells is all that the log and its tape tell, and what the tests work out.
func (w *world) tells() (string, string) {
	all := w.m.batches()
	got := fmt.Sprintf("%d %d %s %x %d", w.l.Last(), w.l.Durable(), told(w.l.Commits()), w.x.Bytes(), w.x.Safe())
	return got, fmt.Sprintf("%d %d %s %x %d", w.m.last, w.m.durable(), told(commitsOf(all)), row(all...), w.m.safe())
}

// P7.2 to P7.4: every row of four calls, on a small tape, answers what the chapter tells.
func TestAllShortHistories(t *testing.T) {
	type call struct{ k, a int }
	calls := []call{{0, 0}, {0, 1}, {1, 3}, {2, 0}, {3, 0}, {4, -1}, {4, 19}, {4, 20}, {4, 62}, {5, 30}, {5, 100}, {6, 0}}
	many := len(calls)
	for code := range many * many * many * many {
		w := newWorld(84)
		w.step(0, 1)
		rest := code
		for range 4 {
			c := calls[rest%many]
			rest /= many
			got, want := w.step(c.k, c.a)
			tells, wanted := w.tells()
			if got != want || tells != wanted {
				t.Fatalf("history %d, at %v: %s, %s, not %s, %s", code, c, got, tells, want, wanted)
			}
		}
	}
}

// history is what a log tells along a row of calls of all kinds; each is held against the log beside.
func history(t *testing.T, room int) []string {
	t.Helper()
	n := noise(room + 12345)
	w := newWorld(room)
	kinds := []int{0, 0, 0, 0, 0, 1, 2, 2, 3, 4, 5, 6}
	var list []string
	for k := range 300 {
		kind := kinds[n.below(len(kinds))]
		argument := n.below(25)
		switch {
		case kind == 4:
			argument = n.below(700)
		case kind == 5:
			argument = room / 2 * (1 + n.below(2))
		}
		got, want := w.step(kind, argument)
		tells, wanted := w.tells()
		if got != want || tells != wanted {
			t.Fatalf("room %d, call %d (%d of %d): %s, %s, not %s, %s", room, k, kind, argument, got, tells, want, wanted)
		}
		list = append(list, got+tells)
	}
	return list
}

// P1 and P2: every call ends without a panic, and says the same again behind the same calls, whatever was done to other logs.
func TestAnswersHangOnCallsAlone(t *testing.T) {
	rooms := []int{0, 19, 20, 40, 84, 300, 1000, 2000, 5000, mostTape}
	var first [][]string
	for _, room := range rooms {
		first = append(first, history(t, room))
	}
	for k := len(rooms) - 1; k >= 0; k-- {
		if again := history(t, rooms[k]); !slices.Equal(again, first[k]) {
			t.Errorf("another history of a log with room for %d", rooms[k])
		}
	}
}
