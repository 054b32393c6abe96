package agent_test

import (
	"slices"
	"testing"

	"cloakroom/agent"
	"cloakroom/api"
	"cloakroom/cnum"
)

// kept is what a client has of an object, and what its transaction did to it.
type kept struct {
	copied, owned, read, wrote bool
	value, written             complex128
}

// plain is an agent as the chapter tells it, object by object: a page is there while one of its objects is a copy, and of
// each page it is known when it was used last.
type plain struct {
	room, time, txn int
	open, waits     bool
	asked           api.Op
	used            [pages]int
	objs            [pages][objs]kept
	calls           []api.Msg
}

func newPlain(many int) *plain {
	switch {
	case many < 1:
		return &plain{room: 1}
	case many > pages:
		return &plain{room: pages}
	}
	return &plain{room: many}
}

func (p *plain) Open() bool  { return p.open }
func (p *plain) Txn() int    { return p.txn }
func (p *plain) Waits() bool { return p.waits }

// mask is that of the objects of a page of which something holds.
func (p *plain) mask(page int, holds func(o kept) bool) int {
	mask := 0
	for k := range objs {
		if page >= 0 && page < pages && holds(p.objs[page][k]) {
			mask += 1 << k
		}
	}
	return mask
}

func (p *plain) Copies(page int) int {
	return p.mask(page, func(o kept) bool { return o.copied })
}

func (p *plain) Own(page int) int {
	return p.mask(page, func(o kept) bool { return o.owned })
}

func (p *plain) touched(page int) bool {
	return p.mask(page, func(o kept) bool { return o.read || o.wrote }) > 0
}

func (p *plain) use(page int) {
	p.time++
	p.used[page] = p.time
}

// there are the pages that are there, the one that was used last behind all others.
func (p *plain) there() []int {
	var list []int
	for page := range pages {
		if p.Copies(page) > 0 {
			list = append(list, page)
		}
	}
	slices.SortFunc(list, func(a, b int) int { return p.used[a] - p.used[b] })
	return list
}

func (p *plain) refuses(o api.Op) api.Errno {
	placed := o.Kind == api.OpRead || o.Kind == api.OpWrite
	switch {
	case o.Kind < 0, o.Kind > 4, placed && (o.Page < 0 || o.Page > 5 || o.Obj < 0 || o.Obj > 3):
		return api.ErrPlace
	case p.waits, p.open == (o.Kind == api.OpBegin), o.Kind == api.OpBegin && p.txn == 16777215:
		return api.ErrState
	}
	return api.OK
}

func (p *plain) Do(o api.Op) ([]api.Msg, api.Answer) {
	if e := p.refuses(o); e != api.OK {
		return nil, api.Answer{Err: e}
	}
	switch o.Kind {
	case api.OpBegin:
		p.txn, p.open = p.txn+1, true
		return nil, api.Answer{}
	case api.OpAbort:
		return p.end(), api.Answer{}
	case api.OpCommit:
		p.waits, p.asked = true, o
		m := api.Msg{Kind: api.Commit, Txn: p.txn}
		p.written(func(page, obj int, v complex128) { m.Puts = append(m.Puts, put(page, obj, v)) })
		return []api.Msg{m}, api.Answer{Waits: true}
	}
	k := &p.objs[o.Page][o.Obj]
	switch {
	case o.Kind == api.OpRead && k.wrote:
		return nil, api.Answer{Value: k.written}
	case o.Kind == api.OpRead && k.copied:
		k.read = true
		p.use(o.Page)
		return nil, api.Answer{Value: k.value}
	case o.Kind == api.OpWrite && k.owned:
		k.wrote, k.written = true, o.Value
		return nil, api.Answer{}
	}
	p.waits, p.asked = true, o
	if o.Kind == api.OpRead {
		return []api.Msg{askRead(o.Page, o.Obj)}, api.Answer{Waits: true}
	}
	return []api.Msg{askWrite(o.Page, o.Obj)}, api.Answer{Waits: true}
}

// written calls for each object that was written, by pages and then by objects.
func (p *plain) written(do func(page, obj int, v complex128)) {
	for at := range pages * objs {
		if k := p.objs[at/objs][at%objs]; k.wrote {
			do(at/objs, at%objs, k.written)
		}
	}
}

func (p *plain) end() []api.Msg {
	p.open, p.waits = false, false
	for page := range pages {
		for k := range objs {
			p.objs[page][k].read, p.objs[page][k].wrote = false, false
		}
	}
	var list []api.Msg
	for _, c := range p.calls {
		list = append(list, p.giveWay(c))
	}
	p.calls = nil
	return list
}

func (p *plain) giveWay(c api.Msg) api.Msg {
	m := release(c.Page, 0, 1<<c.Obj)
	if p.Own(c.Page) == all {
		m.Own = p.mask(c.Page, func(o kept) bool { return o.owned && !o.wrote })
	}
	if c.Write {
		m.Copy = 1 << c.Obj
	}
	for k := range objs {
		o := &p.objs[c.Page][k]
		gone := m.Copy>>k&1 == 1
		o.owned = o.owned && !gone && m.Own>>k&1 == 0
		o.copied = o.copied && !gone
	}
	return m
}

func (p *plain) Got(m api.Msg) ([]api.Msg, api.Answer, bool) {
	placed := p.waits && p.asked.Kind != api.OpCommit
	switch {
	case m.Kind == api.Grant && placed && p.asked.Page == m.Page:
		list, x := p.granted(m)
		return list, x, true
	case m.Kind == api.Call:
		k := p.objs[m.Page][m.Obj]
		if !k.wrote && !(m.Write && k.read) {
			return []api.Msg{p.giveWay(m)}, api.Answer{}, false
		}
		same := func(c api.Msg) bool { return c.Page == m.Page && c.Obj == m.Obj && c.Write == m.Write }
		if !slices.ContainsFunc(p.calls, same) {
			p.calls = append(p.calls, m)
		}
		return []api.Msg{busy(m.Page, m.Obj, m.Write)}, api.Answer{}, false
	case m.Kind == api.Done && p.waits && !placed && m.Txn == p.txn:
		p.written(func(page, obj int, v complex128) {
			if k := &p.objs[page][obj]; k.owned {
				k.value = v
				p.use(page)
			}
		})
		return p.end(), api.Answer{}, true
	case m.Kind == api.Fail && p.waits && (m.Txn == 0 || m.Txn == p.txn):
		return p.end(), api.Answer{Err: api.Errno(m.Copy)}, true
	}
	return nil, api.Answer{}, false
}

func (p *plain) granted(m api.Msg) ([]api.Msg, api.Answer) {
	p.waits = false
	var list []api.Msg
	if there := p.there(); p.Copies(m.Page) == 0 && m.Copy > 0 && len(there) == p.room {
		at := slices.IndexFunc(there, func(page int) bool { return !p.touched(page) })
		if at < 0 {
			return []api.Msg{release(m.Page, all, all)}, api.Answer{Err: api.ErrRoom}
		}
		for k := range objs {
			o := &p.objs[there[at]][k]
			o.copied, o.owned = false, false
		}
		list = append(list, release(there[at], all, all))
	}
	for k := range objs {
		o := &p.objs[m.Page][k]
		o.copied = m.Copy>>k&1 == 1
		o.owned = o.copied && m.Own>>k&1 == 1
		if o.copied {
			o.value = m.Values[k]
		}
	}
	p.use(m.Page)
	o := &p.objs[m.Page][p.asked.Obj]
	switch {
	case p.asked.Kind == api.OpRead && o.copied:
		o.read = true
		return list, api.Answer{Value: o.value}
	case p.asked.Kind == api.OpWrite && o.owned:
		o.wrote, o.written = true, p.asked.Value
		return list, api.Answer{}
	}
	return list, api.Answer{Err: api.ErrState}
}

func (p *plain) Lost(e api.Errno) (api.Answer, bool) {
	waited := p.waits
	*p = plain{room: p.room, txn: p.txn}
	if waited {
		return api.Answer{Err: e}, true
	}
	return api.Answer{}, false
}

// anyAgent is an agent, or a plain one.
type anyAgent interface {
	Do(o api.Op) ([]api.Msg, api.Answer)
	Got(m api.Msg) ([]api.Msg, api.Answer, bool)
	Lost(e api.Errno) (api.Answer, bool)
	Open() bool
	Txn() int
	Waits() bool
	Copies(page int) int
	Own(page int) int
}

// shown is all that is told of an agent.
type shown struct {
	open, waits bool
	txn         int
	copies, own [pages]int
}

func show(x anyAgent) shown {
	s := shown{open: x.Open(), waits: x.Waits(), txn: x.Txn()}
	for page := range pages {
		s.copies[page], s.own[page] = x.Copies(page), x.Own(page)
	}
	return s
}

// noise is a row of numbers that hangs on where it begins alone.
type noise uint64

func (n *noise) below(many int) int {
	*n ^= *n << 13
	*n ^= *n >> 7
	*n ^= *n << 17
	return int(uint64(*n) % uint64(many))
}

func (n *noise) value() complex128 {
	if n.below(10) == 0 {
		list := odd()
		return list[n.below(len(list))]
	}
	return complex(float64(n.below(1000)), float64(n.below(1000)))
}

// told is what a call told, zero where it tells nothing of that kind.
type told struct {
	list   []api.Msg
	answer api.Answer
	ok     bool
}

func (a told) same(b told) bool {
	return sameList(a.list, b.list) && sameAnswer(a.answer, b.answer) && a.ok == b.ok
}

// step is one call.
type step struct {
	kind int
	op   api.Op
	msg  api.Msg
	err  api.Errno
}

const (
	does = iota
	gets
	loses
)

func (s step) do(x anyAgent) told {
	var a told
	switch s.kind {
	case does:
		a.list, a.answer = x.Do(s.op)
	case gets:
		a.list, a.answer, a.ok = x.Got(s.msg)
	case loses:
		a.answer, a.ok = x.Lost(s.err)
	}
	return a
}

// step is one call of the first ones of the pages: in most cases one that does something in this state.
func (n *noise) step(p *plain, many int) step {
	switch at := n.below(100); {
	case at == 0:
		return step{kind: loses, err: api.Errno(n.below(300))}
	case at < 25:
		return step{kind: gets, msg: n.call(p, many)}
	case at < 32:
		return step{kind: gets, msg: n.message(many)}
	case at < 40 || !p.waits:
		return step{op: n.op(p, many)}
	}
	return step{kind: gets, msg: n.reply(p)}
}

// call is one of an object that there is, in most cases.
func (n *noise) call(p *plain, many int) api.Msg {
	m := call(n.below(many), n.below(objs), n.below(2) == 0)
	if len(p.calls) > 0 && n.below(4) == 0 {
		return p.calls[n.below(len(p.calls))]
	}
	return m
}

// message is any of all kinds that is right.
func (n *noise) message(many int) api.Msg {
	switch n.below(8) {
	case 0:
		return askRead(n.below(many), n.below(objs))
	case 1:
		return askWrite(n.below(many), n.below(objs))
	case 2:
		return commits(n.below(20), put(n.below(many), n.below(objs), n.value()))
	case 3:
		return release(n.below(many), n.below(all+1), n.below(all+1))
	case 4:
		return busy(n.below(many), n.below(objs), n.below(2) == 0)
	case 5:
		return done(n.below(20))
	case 6:
		return fail(n.below(20), api.Errno(1+n.below(999)))
	}
	return n.grant(n.below(many))
}

func (n *noise) grant(page int) api.Msg {
	m := api.Msg{Kind: api.Grant, Page: page, Copy: n.below(all + 1), Own: n.below(all + 1)}
	for k := range m.Values {
		m.Values[k] = n.value()
	}
	return m
}

// reply is what the server may say to what is waited for.
func (n *noise) reply(p *plain) api.Msg {
	if n.below(10) == 0 {
		return fail(p.txn*n.below(2), api.Errno(1+n.below(999)))
	}
	if p.asked.Kind == api.OpCommit {
		return done(p.txn)
	}
	m := n.grant(p.asked.Page)
	if n.below(8) > 0 {
		m.Copy |= p.Copies(p.asked.Page)
		m.Copy |= 1 << p.asked.Obj
		if p.asked.Kind == api.OpWrite {
			m.Own |= 1 << p.asked.Obj
		}
	}
	if n.below(4) == 0 {
		m.Copy, m.Own = all, all
	}
	return m
}

// op is one that may be asked, in most cases, and whose place there is.
func (n *noise) op(p *plain, many int) api.Op {
	o := api.Op{Kind: api.OpBegin, Page: n.below(many), Obj: n.below(objs), Value: n.value()}
	if p.open || n.below(5) == 0 {
		o.Kind = []int{api.OpRead, api.OpRead, api.OpRead, api.OpRead, api.OpWrite, api.OpWrite, api.OpWrite, api.OpWrite, api.OpCommit, api.OpAbort}[n.below(10)]
	}
	switch n.below(60) {
	case 0:
		o.Page = n.below(2)*(pages+1) - 1
	case 1:
		o.Obj = n.below(2)*(objs+1) - 1
	case 2:
		o.Kind = n.below(2)*6 - 1
	case 3:
		o.Kind = api.OpBegin
	}
	return o
}

// both does one thing to an agent and to a plain one, and holds what they answer and tell against each other.
func both(t *testing.T, a *agent.Agent, p *plain, s step) told {
	t.Helper()
	got, want := s.do(a), s.do(p)
	if !got.same(want) {
		t.Fatalf("%+v: %+v, not %+v", s, got, want)
	}
	if got, want := show(a), show(p); got != want {
		t.Fatalf("behind %+v: %+v, not %+v", s, got, want)
	}
	return got
}

// What is to be seen often in long rows.
const (
	tookCopy = iota
	tookOwned
	asked
	askedAgain
	committed
	committedMany
	refused
	noPlace
	granted
	grantedWrite
	noRoom
	wentOne
	inVain
	wasBusy
	gaveWay
	gaveAll
	gaveAllButSome
	endedWithCalls
	endedWithSeveral
	saidNothing
	wasDone
	wasFailed
	wasLost
	kinds
)

// look tells of which kinds a step was, ahead of which the plain agent was so.
func look(was plain, s step, a told) []int {
	list := []int{}
	see := func(kind int, holds bool) {
		if holds {
			list = append(list, kind)
		}
	}
	taken := s.kind == does && a.answer == valued(a.answer.Value) && len(a.list) == 0
	see(tookCopy, taken && s.op.Kind == api.OpRead)
	see(tookOwned, taken && s.op.Kind == api.OpWrite)
	see(asked, a.answer.Waits && s.op.Kind != api.OpCommit)
	see(askedAgain, a.answer.Waits && s.op.Kind == api.OpWrite && was.objs[s.op.Page][s.op.Obj].wrote)
	see(committed, a.answer.Waits && s.op.Kind == api.OpCommit)
	see(committedMany, a.answer.Waits && s.op.Kind == api.OpCommit && len(a.list[0].Puts) > 2)
	see(refused, s.kind == does && a.answer.Err == api.ErrState)
	see(noPlace, a.answer.Err == api.ErrPlace)
	if s.kind == loses {
		see(wasLost, a.ok)
		return list
	}
	m := s.msg
	grant := s.kind == gets && m.Kind == api.Grant
	see(granted, grant && a.ok && a.answer.Err == api.OK && was.asked.Kind == api.OpRead)
	see(grantedWrite, grant && a.ok && a.answer.Err == api.OK && was.asked.Kind == api.OpWrite)
	see(noRoom, grant && a.answer.Err == api.ErrRoom)
	see(wentOne, grant && a.answer.Err != api.ErrRoom && len(a.list) == 1)
	see(inVain, grant && a.answer.Err == api.ErrState)
	call := s.kind == gets && m.Kind == api.Call
	see(wasBusy, call && a.list[0].Kind == api.Busy)
	see(gaveWay, call && a.list[0].Kind == api.Release)
	all4 := call && a.list[0].Kind == api.Release && was.Own(m.Page) == all
	see(gaveAll, all4 && a.list[0].Own == all)
	see(gaveAllButSome, all4 && a.list[0].Own != all)
	over := s.kind == does && s.op.Kind == api.OpAbort || s.kind == gets && (m.Kind == api.Done || m.Kind == api.Fail)
	see(endedWithCalls, over && len(a.list) == 1)
	see(endedWithSeveral, over && len(a.list) > 1)
	see(saidNothing, s.kind == gets && !a.ok && len(a.list) == 0)
	see(wasDone, s.kind == gets && m.Kind == api.Done && a.ok)
	see(wasFailed, s.kind == gets && m.Kind == api.Fail && a.ok)
	return list
}

// P17.1 to P17.4: long rows of all calls mixed, in all rooms and of one page up to all, held against a plain agent.
func TestLongRows(t *testing.T) {
	n := noise(88172645463325252)
	var seen [kinds]int
	for round := range 576 {
		room, many := round%(pages+2), 1+round/(pages+2)%pages
		a, p := agent.New(room), newPlain(room)
		for range 600 {
			s := n.step(p, many)
			was := *p
			for _, kind := range look(was, s, both(t, a, p, s)) {
				seen[kind]++
			}
		}
		for _, s := range probe() {
			both(t, a, p, s)
		}
	}
	if slices.Min(seen[:]) < 300 {
		t.Errorf("too little of some kind: %d", seen)
	}
}

// P17.1: the number goes on from what the agent alone knows: rows of different agents that are gone on with by turns.
func TestLongRowsByTurns(t *testing.T) {
	n := noise(362436069)
	var list [5]*agent.Agent
	var beside [5]*plain
	for k := range list {
		list[k], beside[k] = agent.New(1+k), newPlain(1+k)
	}
	for range 20000 {
		k := n.below(len(list))
		both(t, list[k], beside[k], n.step(beside[k], 3))
	}
}

// probe are calls by which what an agent has hidden comes out: what is in use, what is put off, what was written, and in
// which order the pages were used.
func probe() []step {
	var list []step
	get := func(m api.Msg) { list = append(list, step{kind: gets, msg: m}) }
	do := func(o api.Op) { list = append(list, step{op: o}) }
	for page := range 2 {
		for _, obj := range []int{0, 1} {
			do(read(page, obj))
			get(fail(99, 5))
		}
	}
	get(call(0, 1, false))
	get(call(1, 0, true))
	get(call(0, 0, true))
	do(commit())
	for txn := range 5 {
		get(done(txn))
	}
	get(fail(0, 7))
	for _, page := range []int{4, 5, 3} {
		do(begin())
		do(read(page, 2))
		get(grant(page, all, 1))
		do(abort())
	}
	for page := range 2 {
		do(begin())
		do(read(page, 1))
		get(grant(page, 3, 2))
		do(read(page, 0))
		get(fail(0, 9))
		do(abort())
	}
	return list
}

// fewSteps are calls of two pages, and of two objects of each.
func fewSteps() []step {
	var list []step
	for page := range 2 {
		list = append(list,
			step{op: read(page, 0)}, step{op: read(page, 1)}, step{op: write(page, 0, complex(7, float64(page)))}, step{op: write(page, 1, 8)},
			step{kind: gets, msg: grant(page, 3, 3)}, step{kind: gets, msg: grant(page, 1, 0)}, step{kind: gets, msg: grant(page, all, all)},
			step{kind: gets, msg: call(page, 0, false)}, step{kind: gets, msg: call(page, 0, true)}, step{kind: gets, msg: call(page, 1, true)})
	}
	return append(list, step{op: begin()}, step{op: commit()}, step{op: abort()},
		step{kind: gets, msg: done(2)}, step{kind: gets, msg: fail(0, 61)}, step{kind: loses, err: 181})
}

// P17.1 to P17.4: all that can come of three calls out of few, in rooms of one and of two, behind a page that was
// granted, and what is hidden behind them.
func TestShortRows(t *testing.T) {
	list, last := fewSteps(), probe()
	begins := [][]step{
		{{op: begin()}, {op: write(0, 0, 5)}, {kind: gets, msg: grant(0, all, all)}, {op: abort()}, {op: begin()}},
		{{op: begin()}, {op: read(1, 1)}, {kind: gets, msg: grant(1, 3, 1)}, {op: commit()}, {kind: gets, msg: done(1)}, {op: begin()}, {op: write(1, 0, 6)}},
	}
	for at := range 2 * len(begins) {
		for _, first := range list {
			for _, second := range list {
				for _, third := range list {
					a, p := agent.New(1+at/2), newPlain(1+at/2)
					for _, s := range slices.Concat(begins[at%2], []step{first, second, third}, last) {
						if got, want := s.do(a), s.do(p); !got.same(want) {
							t.Fatalf("%+v in %+v, %+v, %+v: %+v, not %+v", s, first, second, third, got, want)
						}
					}
					if got, want := show(a), show(p); got != want {
						t.Fatalf("behind %+v, %+v, %+v: %+v, not %+v", first, second, third, got, want)
					}
				}
			}
		}
	}
}

// The plain agent's values are held against by their bits: the odd ones of the rows differ there.
func TestOddValuesDiffer(t *testing.T) {
	list := odd()
	for k, v := range list {
		for _, other := range list[k+1:] {
			if cnum.Same(v, other) {
				t.Errorf("%v and %v are the same", v, other)
			}
		}
	}
}
