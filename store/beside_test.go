package store_test

import (
	"fmt"
	"math"
	"slices"
	"testing"

	"cloakroom/api"
	"cloakroom/pool"
	"cloakroom/sector"
	"cloakroom/store"
	"cloakroom/tape"
	"cloakroom/wal"
)

// beside is a plain store that the tests keep, on a tape and a drive of its own: it goes page by page where the chapter goes Put by Put.
type beside struct {
	x *tape.Tape
	d *sector.Drive
	l *wal.Log
	p *pool.Pool
}

func openBeside(x *tape.Tape, d *sector.Drive, frames int) (*beside, api.Errno) {
	l := wal.Open(x)
	m := &beside{x: x, d: d, l: l, p: pool.New(d, l, frames)}
	for _, b := range l.Commits() {
		if e := m.write(b); e != api.OK {
			return nil, e
		}
	}
	return m, api.OK
}

// write is all that a batch has for each page, in one go.
func (m *beside) write(b api.Batch) api.Errno {
	for n := range most {
		ofPage := slices.DeleteFunc(slices.Clone(b.Puts), func(p api.Put) bool { return p.Page != n })
		if len(ofPage) == 0 {
			continue
		}
		x, e := m.p.Get(n)
		if e != api.OK {
			return e
		}
		if x.LSN >= b.LSN {
			continue
		}
		for _, p := range ofPage {
			x.Objs[p.Obj] = p.Value
		}
		x.LSN = b.LSN
		if e := m.p.Set(n, x); e != api.OK {
			return e
		}
	}
	return api.OK
}

func (m *beside) commit(b api.Batch) (int, api.Errno) {
	for _, p := range b.Puts {
		if p.Page < 0 || p.Page >= m.d.Len() {
			return 0, api.ErrSector
		}
	}
	lsn, e := m.l.Append(b)
	if e != api.OK {
		return 0, e
	}
	b.LSN = lsn
	return lsn, m.write(b)
}

func (m *beside) checkpoint() api.Errno {
	m.l.Force()
	m.p.FlushAll()
	m.d.Sync()
	return m.l.Mark()
}

func (m *beside) pages() ([]api.Page, api.Errno) {
	var list []api.Page
	for n := range m.d.Len() {
		x, e := m.p.Get(n)
		if e != api.OK {
			return nil, e
		}
		list = append(list, x)
	}
	return list, api.OK
}

func (m *beside) seen() string {
	return fmt.Sprint(m.l.Last(), m.l.Durable(), batches(m.l.Commits()...), devices(m.x, m.d))
}

// both is a world, what the tests keep beside, and all that was committed.
type both struct {
	w   *world
	m   *beside
	all []api.Batch
}

func newBoth(t *testing.T, sectors, frames, room int) *both {
	t.Helper()
	b := &both{w: opened(t, tape.New(room), sector.New(sectors), frames)}
	b.m, _ = openBeside(tape.New(room), sector.New(sectors), frames)
	return b
}

// The kinds of calls: the store's own, and what others do to its tape and its drive.
const (
	callPage = iota
	callCommit
	callSync
	callCheckpoint
	callMap
	callOpen
	callFall
	callLimit
)

// call is a call with its arguments; each kind has those it needs.
type call struct {
	kind, n, keep, mask int
	batch               api.Batch
}

// step does a call, and tells what was answered, by the store and beside.
func (b *both) step(t *testing.T, c call) (string, string) {
	t.Helper()
	w, m := b.w, b.m
	switch c.kind {
	case callPage:
		x, e := w.s.Page(c.n)
		y, f := m.p.Get(c.n)
		return fmt.Sprint(pages(x), e), fmt.Sprint(pages(y), f)
	case callCommit:
		got, e := w.s.Commit(c.batch.Client, c.batch.Epoch, c.batch.Txn, c.batch.Puts)
		want, f := m.commit(c.batch)
		if f == api.OK {
			c.batch.LSN = want
			b.all = append(b.all, c.batch)
		}
		return fmt.Sprint(got, e), fmt.Sprint(want, f)
	case callSync:
		w.s.Sync()
		m.l.Force()
	case callCheckpoint:
		return fmt.Sprint(w.s.Checkpoint()), fmt.Sprint(m.checkpoint())
	case callMap:
		list, e := w.s.Map()
		want, f := m.pages()
		if plain := after(w.d.Len(), b.all...); pages(list...) != pages(plain...) {
			t.Fatalf("Map is %s, %d, not %s", pages(list...), e, pages(plain...))
		}
		return fmt.Sprint(pages(list...), e), fmt.Sprint(pages(want...), f)
	case callOpen, callFall:
		return b.open(t, c)
	case callLimit:
		w.x.Limit(c.n)
		m.x.Limit(c.n)
	}
	return "", ""
}

// open opens both anew, behind a crash or not; what was Durable is there.
func (b *both) open(t *testing.T, c call) (string, string) {
	t.Helper()
	durable := b.w.s.Durable()
	if c.kind == callFall {
		b.w.x.Crash(c.keep)
		b.w.d.Crash(c.mask)
		b.m.x.Crash(c.keep)
		b.m.d.Crash(c.mask)
	}
	s, e := store.Open(b.w.x, b.w.d, c.n)
	m, f := openBeside(b.m.x, b.m.d, c.n)
	if e != api.OK || f != api.OK {
		t.Fatalf("Open: %d, %d", e, f)
	}
	if s.Last() < durable || s.Last() > len(b.all) {
		t.Fatalf("Last is %d, where %d was durable of %d", s.Last(), durable, len(b.all))
	}
	b.w.s, b.m, b.all = s, m, b.all[:s.Last()]
	return "", ""
}

// do is a step that is held against the store beside, with all that can be seen then.
func (b *both) do(t *testing.T, c call) string {
	t.Helper()
	got, want := b.step(t, c)
	seen, wanted := b.w.seen(), b.m.seen()
	if got != want || seen != wanted {
		t.Fatalf("call %v: %s, %s\nnot\n%s, %s", c, got, seen, want, wanted)
	}
	return got + seen
}

// P9.1 to P9.3: every row of three calls behind a beginning, with few frames, does what the chapter tells.
func TestAllShortHistories(t *testing.T) {
	write := func(puts ...api.Put) call {
		return call{kind: callCommit, batch: api.Batch{Client: 1, Epoch: 2, Txn: 3, Puts: puts}}
	}
	calls := []call{{kind: callPage, n: 2}, {kind: callPage, n: 4}, write(put(0, 0, 7), put(0, 3, 8)), write(put(1, 1, 9), put(3, 0, 10)), write(), write(put(4, 0, 1)), write(put(1, 0, 1), put(0, 0, 1)),
		{kind: callSync}, {kind: callCheckpoint}, {kind: callMap}, {kind: callOpen, n: 2}, {kind: callFall, n: 1, keep: 0, mask: 1}, {kind: callFall, n: 3, keep: 50, mask: 14}, {kind: callLimit, n: 170}}
	many := len(calls)
	for frames := 1; frames <= 3; frames++ {
		for code := range many * many * many {
			b := newBoth(t, 4, frames, mostTape)
			b.do(t, write(put(0, 0, 1), put(2, 0, 2)))
			b.do(t, write(put(0, 1, 3)))
			rest := code
			for range 3 {
				b.do(t, calls[rest%many])
				rest /= many
			}
			b.do(t, call{kind: callMap})
			b.do(t, call{kind: callFall, n: frames, keep: code % 60, mask: code % 16})
			b.do(t, call{kind: callMap})
		}
	}
}

// noise is a row of numbers that hangs on where it begins alone.
type noise uint64

func (n *noise) below(many int) int {
	*n ^= *n << 13
	*n ^= *n >> 7
	*n ^= *n << 17
	return int(uint64(*n) % uint64(many))
}

// plan is what a history is made of: each kind as often as it stands there.
var plan = []int{callPage, callPage, callPage, callPage, callCommit, callCommit, callCommit, callCommit, callCommit, callCommit, callCommit, callCommit,
	callSync, callSync, callCheckpoint, callMap, callOpen, callFall, callFall, callLimit}

// batch is one that a transaction may commit: mostly such that it can be.
func batch(n *noise, sectors int) api.Batch {
	b := api.Batch{Client: n.below(4), Epoch: 1 + n.below(maxNum), Txn: 1 + n.below(maxNum)}
	dense := 1 + n.below(8)
	for k := range sectors * objs {
		if n.below(10) < dense && n.below(2) == 0 {
			b.Puts = append(b.Puts, put(k/objs, k%objs, complex(float64(n.below(1000)), float64(n.below(3)))))
		}
	}
	wrong := outside(sectors)
	switch n.below(40) {
	case 0:
		b.Client = 4
	case 1:
		b.Epoch = 0
	case 2:
		b.Txn = maxNum + 1
	case 3:
		slices.Reverse(b.Puts)
	case 4:
		b.Puts = append(b.Puts, put(wrong[n.below(len(wrong))], 0, 1))
	case 5:
		b.Puts = append(b.Puts, b.Puts...)
	}
	return b
}

// next is another call.
func next(n *noise, sectors, room int) call {
	c := call{kind: plan[n.below(len(plan))]}
	switch c.kind {
	case callPage:
		c.n = n.below(sectors+2) - 1
	case callCommit:
		c.batch = batch(n, sectors)
	case callOpen:
		c.n = n.below(8)
	case callFall:
		c.n, c.keep, c.mask = n.below(8), n.below(400)-5, n.below(1<<most)
	case callLimit:
		c.n = room
		if n.below(3) == 0 {
			c.n = n.below(room)
		}
	}
	return c
}

// history is what a store tells along a row of calls of all kinds; each is held against the store beside.
func history(t *testing.T, sectors, frames, begin, many int) []string {
	t.Helper()
	n := noise(begin)
	room := []int{300, 1000, 3000}[begin%3]
	b := newBoth(t, sectors, frames, room)
	var list []string
	for range many {
		list = append(list, b.do(t, next(&n, sectors, room)))
	}
	b.do(t, call{kind: callMap})
	return list
}

// P9.1 to P9.4: long rows of calls of all kinds, with crashes among them, with every number of frames and of sectors.
func TestLongHistories(t *testing.T) {
	for frames := range most + 2 {
		for sectors := range most + 1 {
			for begin := range 3 {
				history(t, sectors, frames, 1000003*(begin+1)+7*frames+sectors, 150)
			}
		}
	}
}

// P1 and P2: every call ends without a panic, and says the same again behind the same calls, whatever was done to other stores.
func TestAnswersHangOnCallsAlone(t *testing.T) {
	var first [][]string
	for frames := 1; frames <= most; frames++ {
		first = append(first, history(t, most, frames, 88172645463325252, 300))
	}
	for frames := most; frames >= 1; frames-- {
		if again := history(t, most, frames, 88172645463325252, 300); !slices.Equal(again, first[frames-1]) {
			t.Errorf("another history of a store of %d frames", frames)
		}
	}
}

// P1: every call ends without a panic at numbers of all sizes, on drives of all sizes, whatever bytes are on the tape and in the sectors.
func TestEveryCallEnds(t *testing.T) {
	edges := []int{math.MinInt, math.MinInt + 1, -1 << 32, -1, 0, 1, 2, 3, 4, 5, 6, 7, 23, 24, 25, maxNum - 1, maxNum, maxNum + 1, 1 << 32, math.MaxInt - 1, math.MaxInt}
	n := noise(7)
	edge := func() int { return edges[n.below(len(edges))] }
	for round := range 2000 {
		x, d := tape.New(mostTape), sector.New(n.below(most+1))
		x.Append(row(mark(n.below(3)*(maxNum-2)/2), commit(n.below(3)*(maxNum-2)/2+1, put(n.below(most), 0, 1)))[:n.below(63)])
		d.Write(n.below(most), others()[n.below(len(others()))])
		d.Write(n.below(most), form(old(max(0, min(maxNum, edge())))))
		s, e := store.Open(x, d, edge())
		if (s == nil) != (e != api.OK) {
			t.Fatalf("Open in round %d: %v, %d", round, s, e)
		}
		if s == nil {
			continue
		}
		for range 20 {
			var puts []api.Put
			for range n.below(4) {
				puts = append(puts, put(edge(), edge(), complex(otherNaN, 0)))
			}
			s.Page(edge())
			s.Commit(edge(), edge(), edge(), puts)
			s.Commit(0, 1, 1, []api.Put{put(n.below(most), n.below(objs), 1)})
			s.Map()
			if n.below(5) == 0 {
				s.Checkpoint()
			}
			if n.below(3) == 0 {
				s.Sync()
			}
			if s.Durable() > s.Last() || len(s.Commits()) > s.Last() {
				t.Fatalf("Durable %d, Last %d, %d Commits", s.Durable(), s.Last(), len(s.Commits()))
			}
		}
	}
}
