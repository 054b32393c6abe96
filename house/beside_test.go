package house_test

import (
	"slices"
	"testing"

	"cloakroom/api"
	"cloakroom/crc"
	"cloakroom/guest"
	"cloakroom/host"
	"cloakroom/house"
	"cloakroom/msg"
	"cloakroom/sector"
	"cloakroom/store"
	"cloakroom/tape"
)

// parcel is a frame on its way.
type parcel struct {
	lane   int
	bytes  []byte
	spoilt bool
}

// event is that a client was answered something without error, without waiting.
type event struct {
	time, client int
	op           api.Op
	value        complex128
}

// state is what a client's transactions hang on, behind a step.
type state struct {
	runs, open bool
	epoch, txn int
}

// plain is a house as the chapter tells it: of transactions it keeps what was answered and how the clients were behind each step,
// and makes them of that whenever it is asked; of what is logged, a batch of each LSN.
type plain struct {
	c      api.Config
	guests map[int]*guest.Guest
	last   [clients]int
	tape   *tape.Tape
	drive  *sector.Drive
	store  *store.Store
	host   *host.Host
	boot   int
	way    []parcel
	asked  [clients]api.Op
	events []event
	states [][clients]state
	logged map[int]api.Batch
}

func newPlain(c api.Config) *plain {
	p := &plain{c: c, guests: map[int]*guest.Guest{}, tape: tape.New(c.Room), drive: sector.New(6), logged: map[int]api.Batch{}}
	for n := range c.Clients {
		p.guests[n], p.last[n] = guest.New(n, 1, c.Many), 1
	}
	p.opens()
	p.states = append(p.states, p.now())
	return p
}

// opens starts the server once more.
func (p *plain) opens() bool {
	p.boot++
	s, e := store.Open(p.tape, p.drive, p.c.Frames)
	if e != api.OK {
		return false
	}
	p.store, p.host = s, host.New(p.boot, p.c.Patience, s)
	return true
}

// now is how the clients are; the last epochs are kept with that.
func (p *plain) now() [clients]state {
	var all [clients]state
	for n, g := range p.guests {
		p.last[n] = g.Epoch()
		all[n] = state{runs: true, open: g.Agent().Open(), epoch: g.Epoch(), txn: g.Agent().Txn()}
	}
	return all
}

func (p *plain) Time() int    { return len(p.states) - 1 }
func (p *plain) HostUp() bool { return p.host != nil }
func (p *plain) Boot() int    { return p.boot }

func (p *plain) Len(lane int) int {
	many := 0
	for _, f := range p.way {
		if f.lane == lane {
			many++
		}
	}
	return many
}

func (p *plain) Up(client int) bool {
	_, runs := p.guests[client]
	return runs
}

func (p *plain) Waits(client int) bool {
	g, runs := p.guests[client]
	return runs && g.Agent().Waits()
}

func (p *plain) Epoch(client int) int {
	if client < 0 || client >= p.c.Clients {
		return 0
	}
	return p.last[client]
}

func (p *plain) Live(client int) bool {
	g, runs := p.guests[client]
	return runs && p.host != nil && p.host.Live(client) == g.Epoch() && g.Boot() == p.boot
}

func (p *plain) Copies(client, page int) int {
	if g, runs := p.guests[client]; runs {
		return g.Agent().Copies(page)
	}
	return 0
}

func (p *plain) Own(client, page int) int {
	if g, runs := p.guests[client]; runs {
		return g.Agent().Own(page)
	}
	return 0
}

func (p *plain) Map() ([]api.Page, api.Errno) {
	if p.host == nil {
		return nil, 211
	}
	return p.store.Map()
}

// Deals are made of all events: each ended with the first step from its beginning on behind which it wasn't open.
func (p *plain) Deals() []api.Deal {
	var list []api.Deal
	at := map[int]int{}
	done := map[int]int{}
	for _, e := range p.events {
		k := at[e.client]
		switch e.op.Kind {
		case api.OpBegin:
			s := p.states[e.time][e.client]
			at[e.client] = len(list)
			list = append(list, api.Deal{Client: e.client, Epoch: s.epoch, Txn: s.txn, Began: e.time, Ended: -1})
		case api.OpRead:
			list[k].Deeds = append(list[k].Deeds, got(e.op.Page, e.op.Obj, e.value))
		case api.OpWrite:
			list[k].Deeds = append(list[k].Deeds, wrote(e.op.Page, e.op.Obj, e.op.Value))
		case api.OpCommit:
			done[k] = e.time
		}
	}
	for k := range list {
		p.ends(&list[k], done[k])
	}
	return list
}

// ends tells how a transaction ended; done is when its commit was answered, 0 if it wasn't.
func (p *plain) ends(d *api.Deal, done int) {
	for time := d.Began; time < len(p.states); time++ {
		s := p.states[time][d.Client]
		if s.runs && s.epoch == d.Epoch && s.open {
			continue
		}
		d.Ended = time
		switch {
		case done == time:
			d.State = 1
		case s.runs && s.epoch == d.Epoch:
			d.State = 2
		default:
			d.State = 3
		}
		return
	}
}

func (p *plain) Logged() []api.Batch {
	var list []api.Batch
	for lsn := 1; lsn <= len(p.logged); lsn++ {
		list = append(list, p.logged[lsn])
	}
	return list
}

func (p *plain) Step(s api.Step) bool {
	did := p.does(s)
	p.states = append(p.states, p.now())
	if p.host != nil {
		for lsn := range p.logged {
			if lsn > p.store.Last() {
				delete(p.logged, lsn)
			}
		}
		for _, b := range p.store.Commits() {
			if _, there := p.logged[b.LSN]; !there {
				p.logged[b.LSN] = b
			}
		}
	}
	return did
}

// does tells the Kinds by the numbers that the chapter gives them.
func (p *plain) does(s api.Step) bool {
	g := p.guests[s.Client]
	switch s.Kind {
	case 0:
		return g != nil && p.ask(g, s)
	case 1:
		if g != nil {
			p.sends(g.Tick())
		}
		return g != nil
	case 2:
		if p.host != nil {
			p.sends(p.host.Tick())
		}
		return p.host != nil
	case 8:
		delete(p.guests, s.Client)
		return g != nil
	case 9:
		if g != nil || s.Client < 0 || s.Client >= p.c.Clients || p.last[s.Client] == 16777215 {
			return false
		}
		p.guests[s.Client] = guest.New(s.Client, p.last[s.Client]+1, p.c.Many)
		return true
	case 10:
		if p.host == nil {
			return false
		}
		p.host, p.store = nil, nil
		p.tape.Crash(s.N)
		p.drive.Crash(s.At)
		return true
	case 11:
		return p.host == nil && p.opens()
	case 12:
		if p.host != nil {
			p.sends(p.host.Sync())
		}
		return p.host != nil
	case 13:
		return p.host != nil && p.store.Checkpoint() == 0
	case 14:
		p.tape.Limit(s.N)
		return true
	}
	return p.moves(s)
}

// moves is what becomes of a frame.
func (p *plain) moves(s api.Step) bool {
	var of []int
	for k, f := range p.way {
		if f.lane == s.Lane {
			of = append(of, k)
		}
	}
	if s.Kind < 3 || s.Kind > 7 || s.N < 0 || s.N >= len(of) {
		return false
	}
	at := of[s.N]
	f := p.way[at]
	switch s.Kind {
	case 3, 4:
		p.way = slices.Delete(p.way, at, at+1)
		if s.Kind == 3 {
			p.gets(f)
		}
	case 5:
		if len(of) == most {
			return false
		}
		p.way = append(p.way, f)
	case 6:
		burst := crc.Burst(f.bytes, s.At, s.Mask)
		if f.spoilt || string(burst) == string(f.bytes) {
			return false
		}
		p.way[at] = parcel{f.lane, burst, true}
	case 7:
		p.way = append(slices.Delete(p.way, at, at+1), f)
	}
	return true
}

// gets hands a frame to whom it is for.
func (p *plain) gets(f parcel) {
	x, e := msg.Open(f.bytes)
	switch g := p.guests[f.lane/2]; {
	case e != api.OK || x.Client != f.lane/2:
	case f.lane%2 == 0 && p.host != nil:
		p.sends(p.host.Got(x))
	case f.lane%2 == 1 && g != nil:
		list, a, ok := g.Got(x)
		p.sends(list)
		if ok {
			p.answers(x.Client, p.asked[x.Client], a)
		}
	}
}

func (p *plain) ask(g *guest.Guest, s api.Step) bool {
	list, a := g.Do(s.Op)
	p.sends(list)
	if a.Waits {
		p.asked[s.Client] = s.Op
	} else {
		p.answers(s.Client, s.Op, a)
	}
	return a.Err == api.OK
}

func (p *plain) answers(client int, o api.Op, a api.Answer) {
	if a.Err == api.OK {
		p.events = append(p.events, event{len(p.states), client, o, a.Value})
	}
}

func (p *plain) sends(list []api.Packet) {
	for _, x := range list {
		lane := 2 * x.Client
		if x.Server {
			lane++
		}
		frame, e := msg.Frame(x)
		if e != api.OK {
			panic("a packet that can't be is sent")
		}
		if p.Len(lane) < most {
			p.way = append(p.way, parcel{lane: lane, bytes: frame})
		}
	}
}

func samePuts(a, b []api.Put) bool { return slices.Equal(a, b) }

func sameBatch(a, b api.Batch) bool {
	return a.LSN == b.LSN && a.Client == b.Client && a.Epoch == b.Epoch && a.Txn == b.Txn && samePuts(a.Puts, b.Puts)
}

func sameDeal(a, b api.Deal) bool {
	return a.Client == b.Client && a.Epoch == b.Epoch && a.Txn == b.Txn && a.Began == b.Began && a.Ended == b.Ended && a.State == b.State && slices.Equal(a.Deeds, b.Deeds)
}

// look is what is told of a house but its transactions and commits, which are many.
func look(h anyHouse) shown {
	s := show(short{h})
	s.deals, s.logged = "", ""
	return s
}

// short is a house of which these aren't told.
type short struct{ anyHouse }

func (short) Deals() []api.Deal   { return nil }
func (short) Logged() []api.Batch { return nil }

// noise is a row of numbers that hangs on where it begins alone.
type noise uint64

func (n *noise) below(many int) int {
	*n ^= *n << 13
	*n ^= *n >> 7
	*n ^= *n << 17
	return int(uint64(*n) % uint64(many))
}

func (n *noise) of(list ...int) int {
	return list[n.below(len(list))]
}

// step is one that does something in most cases. The rougher, the more is lost, falls or crashes.
func (n *noise) step(p *plain, rough int) api.Step {
	c := n.below(p.c.Clients)
	switch at := n.below(100); {
	case at < rough:
		return n.fault(p)
	case at < 50 && len(p.way) > 0:
		return n.delivery(p)
	case at < 51:
		return hostTick()
	case at < 52:
		return tick(c)
	case at < 54 && rough%3 == 0:
		return syncs()
	case !p.Up(c):
		return start(c)
	case !p.HostUp() && n.below(3) == 0:
		return rise()
	case !p.Live(c):
		return n.any(tick(c), n.delivery(p), n.delivery(p), n.delivery(p), n.delivery(p))
	case p.Waits(c) && n.below(10) == 0:
		return syncs()
	case p.Waits(c) && n.below(10) > 0:
		return n.any(tick(c), n.delivery(p), n.delivery(p))
	}
	return do(c, n.op(p.states[p.Time()][c].open))
}

func (n *noise) any(list ...api.Step) api.Step {
	return list[n.below(len(list))]
}

// delivery is that of the first frame of a lane, and seldom of another one.
func (n *noise) delivery(p *plain) api.Step {
	if len(p.way) == 0 || n.below(40) == 0 {
		return deliver(n.below(lanes), 0)
	}
	lane := p.way[n.below(len(p.way))].lane
	if n.below(10) == 0 {
		return deliver(lane, n.below(p.Len(lane)))
	}
	return deliver(lane, 0)
}

// op is one that can be done in most cases.
func (n *noise) op(open bool) api.Op {
	v := complex(float64(n.below(1000)), float64(n.below(3)))
	o := api.Op{Kind: n.of(1, 1, 1, 2, 2, 2, 3, 3, 4), Page: n.below(3), Obj: n.below(objs), Value: v}
	if !open {
		o.Kind = api.OpBegin
	}
	switch n.below(60) {
	case 0:
		o.Kind = n.of(-1, 0, 1, 2, 3, 4, 5)
	case 1:
		o.Page = n.of(-1, 5, 6)
	case 2:
		o.Obj = n.of(-1, 4)
	}
	return o
}

// fault is what doesn't happen in a calm world, and what can't be.
func (n *noise) fault(p *plain) api.Step {
	s := api.Step{Kind: n.below(15), Client: n.below(p.c.Clients), Lane: n.below(lanes), N: n.below(3), At: n.below(160), Mask: uint16(n.below(1 << 16)), Op: n.op(true)}
	if len(p.way) > 0 {
		s.Lane = p.way[n.below(len(p.way))].lane
		s.N = n.below(p.Len(s.Lane))
	}
	switch n.below(25) {
	case 0:
		s.Client = n.of(wrong(p.c.Clients)...)
	case 1:
		s.Lane = n.of(wrong(lanes)...)
	case 2:
		s.N = n.of(-1, p.Len(s.Lane)-1, p.Len(s.Lane), most)
	case 3:
		s.Kind = n.of(wrong(15)...)
	}
	switch s.Kind {
	case api.StepFall:
		s.N, s.At = n.below(2)*n.below(300), n.below(64)
	case api.StepRoom:
		s.N = n.of(0, 300, 2000, 20000, 20000, 20000)
	}
	return s
}

// seen counts what rows came to.
type seen struct {
	did, refused [15]int
	states       [4]int
	reads        int
	writes       int
	gone         int
	full         int
	logged       int
}

func (s *seen) look(step api.Step, did bool) {
	if step.Kind < 0 || step.Kind > 14 {
		return
	}
	if did {
		s.did[step.Kind]++
	} else {
		s.refused[step.Kind]++
	}
}

func (s *seen) count(h anyHouse) {
	for _, d := range h.Deals() {
		s.states[d.State]++
		for _, k := range d.Deeds {
			if k.Write {
				s.writes++
			} else {
				s.reads++
			}
		}
	}
	s.logged += len(h.Logged())
}

// pair is a house and a plain one, to which the same things happen.
type pair struct {
	t *testing.T
	h *house.House
	p *plain
	s *seen
}

func newPair(t *testing.T, c api.Config, s *seen) *pair {
	t.Helper()
	h, e := house.New(c)
	if e != api.OK {
		t.Fatalf("New %+v: %d", c, e)
	}
	return &pair{t, h, newPlain(c), s}
}

func (b *pair) step(s api.Step) {
	b.t.Helper()
	before := len(b.h.Logged())
	did, want := b.h.Step(s), b.p.Step(s)
	if did != want || b.h.Time() != b.p.Time() {
		b.t.Fatalf("%+v: %t at %d, not %t at %d", s, did, b.h.Time(), want, b.p.Time())
	}
	if now, want := look(b.h), look(b.p); now != want {
		b.t.Fatalf("behind %+v there is\n%+v, not\n%+v", s, now, want)
	}
	if got, want := b.h.Logged(), b.p.Logged(); !slices.EqualFunc(got, want, sameBatch) {
		b.t.Fatalf("behind %+v logged is\n%+v, not\n%+v", s, got, want)
	}
	b.s.look(s, did)
	if len(b.h.Logged()) < before {
		b.s.gone++
	}
	for lane := range lanes {
		if b.h.Len(lane) == most {
			b.s.full++
			break
		}
	}
}

// check looks at what is much to look at. Map is asked of both, since it brings pages into frames, and may force the log by that.
func (b *pair) check() {
	b.t.Helper()
	if got, want := b.h.Deals(), b.p.Deals(); !slices.EqualFunc(got, want, sameDeal) {
		b.t.Fatalf("at %d the transactions are\n%+v, not\n%+v", b.h.Time(), got, want)
	}
	got, e := b.h.Map()
	want, wantE := b.p.Map()
	if e != wantE || !slices.Equal(got, want) {
		b.t.Fatalf("at %d the Map is\n%+v %d, not\n%+v %d", b.h.Time(), got, e, want, wantE)
	}
	checkHistory(b.t, b.h, got)
}

// P21.2 to P21.5: long rows of all Kinds mixed, in calm worlds and in rough ones, held against a plain house, and against what the
// document says must hold.
func TestLongRows(t *testing.T) {
	t.Parallel()
	n := noise(88172645463325252)
	var s seen
	for round := range 200 {
		c := api.Config{Clients: 1 + round%4, Frames: 1 + round%6, Many: 1 + round%5, Patience: n.of(2, 10, 30, 100), Room: n.of(20000, 20000, 2000, 300)}
		b := newPair(t, c, &s)
		for k := range 1200 {
			b.step(n.step(b.p, round%10))
			checkAlone(t, b.h)
			if k%100 == 0 {
				b.check()
			}
		}
		b.check()
		s.count(b.h)
	}
	// StepRoom always does something.
	if slices.Min(slices.Concat(s.did[:], s.states[:], []int{s.reads, s.writes, s.logged})) < 200 || s.gone < 40 || slices.Min(s.refused[:14]) < 15 {
		t.Errorf("too little of some kind: %+v", s)
	}
}

// P21.2: rows in which lanes are full, since little is delivered.
func TestLongFullRows(t *testing.T) {
	t.Parallel()
	n := noise(362436069)
	var s seen
	for round := range 12 {
		b := newPair(t, api.Config{Clients: 2 + round%3, Frames: 3, Many: 3, Patience: 100, Room: 20000}, &s)
		for range 3000 {
			k := n.step(b.p, round%10)
			if k.Kind == api.StepDeliver && n.below(3) > 0 {
				k = n.any(tick(n.below(clients)), hostTick(), double(n.below(lanes), 0))
			}
			b.step(k)
			checkAlone(t, b.h)
		}
		b.check()
	}
	if s.full < 1000 {
		t.Errorf("lanes were full behind %d steps", s.full)
	}
}

// fewSteps are steps of a world with two clients.
func fewSteps() []api.Step {
	return []api.Step{
		tick(0), tick(1), hostTick(), syncs(), deliver(up(0), 0), deliver(down(0), 0), deliver(up(1), 0), deliver(down(1), 0),
		do(0, begin()), do(0, write(1, 1, 5)), do(0, commit()), do(0, abort()), do(1, read(1, 1)),
		crash(0), start(0), fall(42, 0), rise(), checkpoint(), room(0), late(up(0), 0), double(down(0), 0),
	}
}

// P21.2 to P21.5: all that can come of three steps out of few, of a new world and of such in which much is going on.
func TestShortRows(t *testing.T) {
	t.Parallel()
	list := fewSteps()
	met := []api.Step{tick(0), tick(1), deliver(up(0), 0), deliver(up(1), 0), deliver(down(0), 0), deliver(down(1), 0)}
	asks := slices.Concat(met, []api.Step{do(0, begin()), do(1, begin()), do(1, read(1, 1)), deliver(up(1), 0), do(0, write(1, 1, 5))})
	owns := slices.Concat(asks, []api.Step{deliver(down(1), 0), deliver(up(0), 0), deliver(down(1), 0), deliver(up(1), 0), deliver(up(1), 0), do(1, abort()), deliver(up(1), 0), deliver(down(0), 0)})
	commits := slices.Concat(owns, []api.Step{do(0, commit()), deliver(up(0), 0), deliver(up(0), 0)})
	told := slices.Concat(commits, []api.Step{syncs()})
	var s seen
	for _, first := range [][]api.Step{nil, met, asks, owns, commits, told} {
		for number := range len(list) * len(list) * len(list) {
			b := newPair(t, usual(2), &s)
			for _, k := range first {
				b.h.Step(k)
				b.p.Step(k)
			}
			for _, k := range []int{number % len(list), number / len(list) % len(list), number / len(list) / len(list)} {
				b.step(list[k])
			}
			b.check()
			if t.Failed() {
				t.Fatalf("row %d behind %d steps", number, len(first))
			}
		}
	}
}
