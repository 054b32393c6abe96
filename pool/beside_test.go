package pool_test

import (
	"bytes"
	"fmt"
	"slices"
	"testing"

	"cloakroom/api"
	"cloakroom/page"
	"cloakroom/pool"
	"cloakroom/sector"
	"cloakroom/tape"
	"cloakroom/wal"
)

// cell is a frame of the pool that the tests keep beside; an empty one is nil.
type cell struct {
	number      int
	page        api.Page
	dirty, used bool
	pins        int
}

// beside is a pool as the chapter tells it, in front of a drive and a log of its own.
type beside struct {
	cells []*cell
	hand  int
	d     *sector.Drive
	x     *tape.Tape
	l     *wal.Log
}

func newBeside(sectors, frames int) *beside {
	m := &beside{cells: make([]*cell, frames), d: sector.New(sectors), x: tape.New(room)}
	m.l = wal.Open(m.x)
	return m
}

// find is the cell with that page, nil where there is none.
func (m *beside) find(n int) *cell {
	for _, c := range m.cells {
		if c != nil && c.number == n {
			return c
		}
	}
	return nil
}

func (m *beside) flush(c *cell) {
	if c == nil || !c.dirty {
		return
	}
	if c.page.LSN > m.l.Durable() {
		m.l.Force()
	}
	m.d.Write(c.number, form(c.page))
	c.dirty = false
}

// place is where another page can be; -1 where two rounds find none.
func (m *beside) place() int {
	if at := slices.Index(m.cells, nil); at >= 0 {
		return at
	}
	for range 2 {
		for k := range m.cells {
			at := (m.hand + k) % len(m.cells)
			c := m.cells[at]
			if c.pins > 0 {
				continue
			}
			if c.used {
				c.used = false
				continue
			}
			m.flush(c)
			m.hand = (at + 1) % len(m.cells)
			return at
		}
	}
	return -1
}

func (m *beside) load(n int) (*cell, api.Errno) {
	if c := m.find(n); c != nil {
		c.used = true
		return c, api.OK
	}
	b, e := m.d.Read(n)
	if e != api.OK {
		return nil, api.ErrSector
	}
	x := api.Page{}
	if len(b) > 0 {
		x, e = page.Read(b)
	}
	if e != api.OK {
		return nil, api.ErrPage
	}
	at := m.place()
	if at < 0 {
		return nil, api.ErrPool
	}
	m.cells[at] = &cell{number: n, page: x, used: true}
	return m.cells[at], api.OK
}

func (m *beside) get(n int) (api.Page, api.Errno) {
	c, e := m.load(n)
	if e != api.OK {
		return api.Page{}, e
	}
	return c.page, api.OK
}

func (m *beside) set(n int, x api.Page) api.Errno {
	if x.LSN < 0 || x.LSN > maxNum {
		return api.ErrPage
	}
	c, e := m.load(n)
	if e == api.OK {
		c.page, c.dirty = x, true
	}
	return e
}

func (m *beside) pin(n int) api.Errno {
	c, e := m.load(n)
	if e != api.OK {
		return e
	}
	if c.pins >= mostPins {
		return api.ErrPool
	}
	c.pins++
	return api.OK
}

func (m *beside) unpin(n int) api.Errno {
	c := m.find(n)
	if c == nil || c.pins < 1 {
		return api.ErrPool
	}
	c.pins--
	return api.OK
}

func (m *beside) flushOne(n int) api.Errno {
	c := m.find(n)
	if c == nil {
		return api.ErrPool
	}
	m.flush(c)
	return api.OK
}

func (m *beside) flushAll() api.Errno {
	for _, c := range m.cells {
		m.flush(c)
	}
	return api.OK
}

// seen is what world's seen tells, of the pool beside.
func (m *beside) seen() string {
	held, dirty := []int{}, []int{}
	for n := range most {
		if c := m.find(n); c != nil {
			held = append(held, n)
			if c.dirty {
				dirty = append(dirty, n)
			}
		}
	}
	told := fmt.Sprint(held, dirty, m.d.Loose(), m.l.Last(), m.l.Durable(), m.x.Safe())
	for n := range m.d.Len() {
		b, e := m.d.Read(n)
		told += fmt.Sprintf(" %x %d", b, e)
	}
	return told
}

// both is a world, and what the tests keep beside.
type both struct {
	w *world
	m *beside
}

func newBoth(sectors, frames int) *both {
	return &both{w: newWorld(sectors, frames), m: newBeside(sectors, frames)}
}

// The kinds of calls: the pool's own, and what others do to what it stands in front of.
const (
	callGet = iota
	callSet
	callPin
	callUnpin
	callFlush
	callFlushAll
	callAppend
	callForce
	callMark
	callSync
	callCrashDrive
	callCrashTape
	callWrite
)

// step does a call with page n and another argument, and tells what was answered, by the pool and beside.
func (b *both) step(kind, n, a int) (string, string) {
	w, m := b.w, b.m
	switch kind {
	case callGet:
		got, e := w.p.Get(n)
		want, f := m.get(n)
		return fmt.Sprint(text(got), e), fmt.Sprint(text(want), f)
	case callSet:
		return fmt.Sprint(w.p.Set(n, of(n, a))), fmt.Sprint(m.set(n, of(n, a)))
	case callPin:
		return fmt.Sprint(w.p.Pin(n)), fmt.Sprint(m.pin(n))
	case callUnpin:
		return fmt.Sprint(w.p.Unpin(n)), fmt.Sprint(m.unpin(n))
	case callFlush:
		return fmt.Sprint(w.p.Flush(n)), fmt.Sprint(m.flushOne(n))
	case callFlushAll:
		return fmt.Sprint(w.p.FlushAll()), fmt.Sprint(m.flushAll())
	}
	onDevices(kind, n, a, w.d, w.x, w.l)
	onDevices(kind, n, a, m.d, m.x, m.l)
	return "", ""
}

// onDevices does what others may do to a drive, a tape and a log.
func onDevices(kind, n, a int, d *sector.Drive, x *tape.Tape, l *wal.Log) {
	switch kind {
	case callAppend:
		l.Append(api.Batch{Epoch: 1, Txn: 1})
	case callForce:
		l.Force()
	case callMark:
		l.Mark()
	case callSync:
		d.Sync()
	case callCrashDrive:
		d.Crash(a)
	case callCrashTape:
		x.Crash(a)
	case callWrite:
		d.Write(n, [][]byte{nil, []byte("x"), form(of(n, 1)), form(api.Page{})}[a%4])
	}
}

// do is a step that is held against the pool beside, with all that can be seen then.
func (b *both) do(t *testing.T, kind, n, a int) string {
	t.Helper()
	got, want := b.step(kind, n, a)
	seen, wanted := b.w.seen(), b.m.seen()
	if got != want || seen != wanted {
		t.Fatalf("call %d with %d, %d: %s, %s\nnot\n%s, %s", kind, n, a, got, seen, want, wanted)
	}
	return got + seen
}

// settle goes on with calls that tell what else is kept.
func (b *both) settle(t *testing.T) {
	t.Helper()
	for n := range b.w.d.Len() {
		b.do(t, callGet, n, 0)
	}
	for n := range b.w.d.Len() {
		b.do(t, callUnpin, n, 0)
		b.do(t, callSet, n, 0)
	}
	b.do(t, callFlushAll, 0, 0)
}

// P8.1 and P8.2: every row of three calls behind a beginning, with few frames, answers what the chapter tells.
func TestAllShortHistories(t *testing.T) {
	type call struct{ kind, n, a int }
	calls := []call{{callGet, 0, 0}, {callGet, 1, 0}, {callGet, 3, 0}, {callSet, 0, 0}, {callSet, 2, 1}, {callPin, 1, 0}, {callPin, 2, 0},
		{callUnpin, 1, 0}, {callFlush, 0, 0}, {callFlushAll, 0, 0}, {callWrite, 3, 1}, {callCrashDrive, 0, 1}}
	many := len(calls)
	for frames := 1; frames <= 3; frames++ {
		for code := range many * many * many {
			b := newBoth(4, frames)
			b.do(t, callAppend, 0, 0)
			b.do(t, callSet, 0, 1)
			b.do(t, callGet, 1, 0)
			rest := code
			for range 3 {
				c := calls[rest%many]
				rest /= many
				b.do(t, c.kind, c.n, c.a)
			}
			b.settle(t)
		}
	}
}

// noise is a row of numbers that hangs on where it begins alone.
type noise uint64

func (n *noise) below(many int) int {
	*n ^= *n << 13
	*n ^= *n >> 7
	*n ^= *n << 17
	return int(uint64(*n) % uint64(many))
}

// plan is what a history is made of: each kind as often as it stands there.
var plan = []int{callGet, callGet, callGet, callGet, callSet, callSet, callSet, callSet, callPin, callPin, callUnpin, callUnpin, callUnpin,
	callFlush, callFlushAll, callAppend, callAppend, callForce, callMark, callSync, callCrashDrive, callCrashTape, callWrite}

// argument is one that a call of that kind may have: mostly such that it can be.
func argument(n *noise, kind, last int) int {
	switch kind {
	case callSet:
		switch n.below(10) {
		case 0:
			return -1
		case 1:
			return maxNum + n.below(2)
		}
		return n.below(last + 2)
	case callCrashDrive:
		return n.below(1 << most)
	case callCrashTape:
		return n.below(50)
	}
	return n.below(8)
}

// history is what a pool tells along a row of calls of all kinds; each is held against the pool beside.
func history(t *testing.T, sectors, frames, begin, many int) []string {
	t.Helper()
	n := noise(begin)
	b := newBoth(sectors, frames)
	wrong := outside(sectors)
	var list []string
	for range many {
		kind := plan[n.below(len(plan))]
		at := n.below(max(sectors, 1))
		if n.below(30) == 0 {
			at = wrong[n.below(len(wrong))]
		}
		list = append(list, b.do(t, kind, at, argument(&n, kind, b.w.l.Last())))
	}
	return list
}

// P8.1 and P8.2: long rows of calls of all kinds, crashes of the drive and of the tape among them, with every number of frames and of sectors.
func TestLongHistories(t *testing.T) {
	for frames := 1; frames <= most; frames++ {
		for sectors := range most + 1 {
			for begin := 1; begin <= 4; begin++ {
				history(t, sectors, frames, 1000003*begin+frames, 1000)
			}
		}
	}
}

// P1 and P2: every call ends without a panic, and says the same again behind the same calls, whatever was done to other pools.
func TestAnswersHangOnCallsAlone(t *testing.T) {
	var first [][]string
	for frames := 1; frames <= most; frames++ {
		first = append(first, history(t, most, frames, 88172645463325252, 300))
	}
	for frames := most; frames >= 1; frames-- {
		if again := history(t, most, frames, 88172645463325252, 300); !slices.Equal(again, first[frames-1]) {
			t.Errorf("another history of a pool of %d frames", frames)
		}
	}
}

// checkAhead asks that no page on the drive has an LSN above what is Durable.
func (w *world) checkAhead(t *testing.T) {
	t.Helper()
	durable := w.l.Durable()
	for n := range w.d.Len() {
		b, _ := w.d.Read(n)
		if len(b) == 0 {
			continue
		}
		if x, e := page.Read(b); e != api.OK || x.LSN > durable {
			t.Fatalf("sector %d has LSN %d, %d, where %d is durable", n, x.LSN, e, durable)
		}
	}
}

// P8.3: pages with LSNs of the log: none is on the drive ahead of the log, and what was Set is what Get answers, whatever lies between.
func TestWhatIsSet(t *testing.T) {
	for frames := 1; frames <= most; frames++ {
		n := noise(frames * 7919)
		w := newWorld(most, frames)
		var set [most]api.Page
		for k := range 3000 {
			at := n.below(most)
			switch n.below(12) {
			case 0, 1, 2, 3:
				if n.below(2) == 0 && w.l.Last() < 150 {
					w.commit(t)
				}
				x := of(k, n.below(w.l.Last()+1))
				if e := w.p.Set(at, x); e == api.OK {
					set[at] = x
				} else if e != api.ErrPool {
					t.Fatalf("Set: %d", e)
				}
			case 4, 5, 6:
				if x, e := w.p.Get(at); e == api.OK && text(x) != text(set[at]) || e != api.OK && e != api.ErrPool {
					t.Fatalf("Get of %d: %v, %d, not %v", at, x, e, set[at])
				}
			case 7:
				w.p.Pin(at)
			case 8, 9:
				w.p.Unpin(at)
			case 10:
				w.p.Flush(at)
			case 11:
				if n.below(4) == 0 {
					w.p.FlushAll()
					w.d.Sync()
				}
			}
			w.checkAhead(t)
		}
	}
}

// P8.3: also behind a crash of both, whatever of them is kept, and another pool: what is on the drive is as was FLUSHED once, and Durable.
func TestCrashOfBoth(t *testing.T) {
	for frames := 1; frames <= most; frames++ {
		for keep := range 1 << most {
			w := newWorld(most, frames)
			for k := range 2 * most {
				lsn := w.commit(t)
				w.set(t, k%most, of(k%most, lsn))
				if k == most {
					w.d.Sync()
				}
			}
			w.checkAhead(t)
			durable := w.l.Durable()
			before := make([][]byte, most)
			for n := range most {
				before[n], _ = w.d.Read(n)
			}
			w.x.Crash(keep % 50)
			w.d.Crash(keep)
			w.checkAhead(t)
			l := wal.Open(w.x)
			again := &world{d: w.d, x: w.x, l: l, p: pool.New(w.d, l, frames)}
			if l.Durable() < durable {
				t.Errorf("Durable was %d, and is %d", durable, l.Durable())
			}
			again.checkAhead(t)
			for n := range most {
				b, _ := w.d.Read(n)
				if keep>>n&1 == 1 && !bytes.Equal(b, before[n]) {
					t.Errorf("sector %d was kept, and is another one", n)
				}
				x := api.Page{}
				if len(b) > 0 {
					x, _ = page.Read(b)
				}
				again.get(t, n, x)
			}
		}
	}
}

// Crashes between calls: what is in frames stays, what was flushed and not kept is gone, and comes back as it was ahead of it.
func TestCrashBetweenCalls(t *testing.T) {
	w := newWorld(3, 2)
	w.set(t, 0, of(0, 0))
	errno(t, "Flush", w.p.Flush(0), api.OK)
	w.d.Sync()
	w.set(t, 0, of(7, 0))
	w.set(t, 1, of(1, 0))
	errno(t, "FlushAll", w.p.FlushAll(), api.OK)
	w.d.Crash(2)
	w.get(t, 0, of(7, 0))
	w.get(t, 1, of(1, 0))
	w.dirty(t)
	errno(t, "FlushAll", w.p.FlushAll(), api.OK)
	w.sector(t, 0, form(of(0, 0)))
	w.get(t, 2, api.Page{})
	w.held(t, 1, 2)
	w.get(t, 0, of(0, 0))
	w.get(t, 1, of(1, 0))

	lsn := w.commit(t)
	w.set(t, 1, of(1, lsn))
	w.x.Crash(0)
	w.dirty(t, 1)
	errno(t, "Flush", w.p.Flush(1), api.OK)
	w.durable(t, 0)
	w.sector(t, 1, form(of(1, lsn)))
	w.loose(t, 1)
}
