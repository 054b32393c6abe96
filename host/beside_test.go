package host_test

import (
	"math"
	"testing"

	"cloakroom/api"
	"cloakroom/desk"
	"cloakroom/host"
	"cloakroom/msg"
	"cloakroom/sector"
	"cloakroom/store"
	"cloakroom/tape"
)

// What is to be seen often in long rows.
const (
	cantBe = iota
	servers
	epoch0
	begun
	begunAnew
	begunTold
	askedAgain
	refusedWithout
	refusedEpoch
	refusedBoot
	told
	untold
	unreadable
	tooMuch
	asked
	released
	wasBusy
	committed
	committedNothing
	notOwned
	storeRefused
	logFull
	notAClients
	granted
	grantedOther
	called
	gaveWay
	ticked
	tickedNothing
	ended
	endedSeveral
	endedTold
	syncedNothing
	syncedOne
	syncedSeveral
	syncedOver
	late
	madeRoom
	kinds
)

// talk is a session as the chapter tells it: all bodies that were said in it are kept, with how many of them were pushed and
// how many of those came.
type talk struct {
	epoch                       int
	said                        [][]byte
	pushed, came, heard, silent int
}

// plain is a host as the chapter tells it. What it saw is counted in what is given for that.
type plain struct {
	boot, patience int
	store          *store.Store
	desk           *desk.Desk
	with           map[int]*talk
	greatest       map[int]int
	untold         []api.Batch
	fresh          map[int]bool
	of             int // whose packet it is
	seen           *[kinds]int
}

func newPlain(boot, patience int, s *store.Store, seen *[kinds]int) *plain {
	switch {
	case patience < 1:
		patience = 1
	case patience > 100:
		patience = 100
	}
	return &plain{boot: boot, patience: patience, store: s, desk: desk.New(), with: map[int]*talk{}, greatest: map[int]int{}, fresh: map[int]bool{}, seen: seen}
}

func (p *plain) see(kind int, holds bool) {
	if holds && p.seen != nil {
		p.seen[kind]++
	}
}

func (p *plain) Live(client int) int {
	if k, there := p.with[client]; there {
		return k.epoch
	}
	return 0
}

func (p *plain) Copies(client, page int) int { return p.desk.Copies(client, page) }
func (p *plain) Own(client, page int) int    { return p.desk.Own(client, page) }
func (p *plain) Open() int                   { return len(p.untold) }

func canBe(k api.Packet) bool {
	for _, number := range []int{k.Epoch, k.Boot, k.Seq, k.Ack} {
		if number < 0 || number > 16777215 {
			return false
		}
	}
	return k.Client >= 0 && k.Client <= 3 && len(k.Body) <= 700
}

func (p *plain) Got(k api.Packet) []api.Packet {
	p.see(cantBe, !canBe(k))
	p.see(servers, canBe(k) && k.Server)
	p.see(epoch0, canBe(k) && k.Epoch == 0)
	if !canBe(k) || k.Server || k.Epoch == 0 {
		return nil
	}
	p.of = k.Client
	with, there := p.with[k.Client]
	here := there && with.epoch == k.Epoch
	switch {
	case k.Boot == 0 && k.Epoch > p.greatest[k.Client]:
		if there {
			p.end(k.Client)
		}
		p.with[k.Client] = &talk{epoch: k.Epoch}
		p.greatest[k.Client] = k.Epoch
		p.see(begun, !there)
		p.see(begunAnew, there)
		p.see(begunTold, len(p.fresh) > 0)
	case k.Boot == 0 && here:
		p.see(askedAgain, true)
	case k.Boot == p.boot && here:
		with.silent = 0
		p.hear(with, k)
	default:
		p.see(refusedWithout, !there)
		p.see(refusedEpoch, there && !here)
		p.see(refusedBoot, here)
		return refused(k.Client, k.Epoch)
	}
	list := p.pump(k.Client)
	return append(list, p.pumpFresh()...)
}

func (p *plain) hear(with *talk, k api.Packet) {
	p.see(tooMuch, k.Ack > with.pushed && k.Seq == with.heard+1)
	if k.Ack > with.pushed {
		return
	}
	with.came = max(with.came, k.Ack)
	p.see(untold, k.Seq != with.heard+1)
	if k.Seq != with.heard+1 {
		return
	}
	with.heard++
	m, e := msg.Read(k.Body)
	p.see(told, e == api.OK)
	p.see(unreadable, e != api.OK)
	if e == api.OK {
		p.do(k.Client, with.epoch, m)
	}
}

func (p *plain) do(client, epoch int, m api.Msg) {
	p.see(released, m.Kind == api.Release)
	p.see(wasBusy, m.Kind == api.Busy)
	p.see(notAClients, m.Kind >= api.Grant)
	switch m.Kind {
	case api.AskRead, api.AskWrite:
		p.see(asked, true)
		if _, e := p.store.Page(m.Page); e != api.OK {
			p.say(client, fail(0, e))
			return
		}
		p.sayAll(p.desk.Handle(client, m))
	case api.Release, api.Busy:
		p.sayAll(p.desk.Handle(client, m))
	case api.Commit:
		for _, k := range m.Puts {
			if p.desk.Own(client, k.Page)>>k.Obj&1 == 0 {
				p.see(notOwned, true)
				p.say(client, fail(m.Txn, 191))
				return
			}
		}
		lsn, e := p.store.Commit(client, epoch, m.Txn, m.Puts)
		p.see(committed, e == api.OK && len(m.Puts) > 0)
		p.see(committedNothing, e == api.OK && len(m.Puts) == 0)
		p.see(storeRefused, e != api.OK)
		p.see(logFull, e == api.ErrFull)
		if e != api.OK {
			p.say(client, fail(m.Txn, e))
			return
		}
		p.untold = append(p.untold, api.Batch{LSN: lsn, Client: client, Epoch: epoch, Txn: m.Txn})
	}
}

// end takes a session away.
func (p *plain) end(client int) {
	delete(p.with, client)
	delete(p.fresh, client)
	p.sayAll(p.desk.Gone(client))
}

func (p *plain) say(client int, m api.Msg) {
	if with, there := p.with[client]; there {
		with.said = append(with.said, bytesOf(m))
		p.fresh[client] = true
	}
}

func (p *plain) sayAll(acts []api.Act) {
	for _, a := range acts {
		m := a.Msg
		p.see(granted, m.Kind == api.Grant && a.Client == p.of)
		p.see(grantedOther, m.Kind == api.Grant && a.Client != p.of)
		p.see(called, m.Kind == api.Call)
		p.see(gaveWay, m.Kind == api.Fail)
		if m.Kind == api.Grant {
			x, _ := p.store.Page(m.Page)
			for obj, v := range x.Objs {
				if m.Copy>>obj&1 == 1 {
					m.Values[obj] = v
				}
			}
		}
		p.say(a.Client, m)
	}
}

func (p *plain) pump(client int) []api.Packet {
	with := p.with[client]
	delete(p.fresh, client)
	before := with.pushed
	p.see(madeRoom, with.pushed < len(with.said) && with.pushed < with.came+window)
	with.pushed = min(len(with.said), with.came+window)
	p.see(late, before == with.pushed && with.pushed < len(with.said))
	var list []api.Packet
	for n := with.came; n < with.pushed; n++ {
		list = append(list, api.Packet{Client: client, Epoch: with.epoch, Boot: p.boot, Seq: n + 1, Ack: with.heard, Server: true, Body: with.said[n]})
	}
	if len(list) == 0 {
		list = append(list, api.Packet{Client: client, Epoch: with.epoch, Boot: p.boot, Ack: with.heard, Server: true})
	}
	return list
}

func (p *plain) pumpFresh() []api.Packet {
	var list []api.Packet
	for client := range clients {
		if p.fresh[client] {
			list = append(list, p.pump(client)...)
		}
	}
	return list
}

func (p *plain) Tick() []api.Packet {
	p.of = -1
	many := len(p.with)
	p.see(tickedNothing, many == 0)
	for client := range clients {
		with, there := p.with[client]
		if !there {
			continue
		}
		with.silent++
		if with.silent > p.patience {
			p.end(client)
		}
	}
	p.see(ended, len(p.with) == many-1)
	p.see(endedSeveral, len(p.with) < many-1)
	p.see(endedTold, len(p.fresh) > 0)
	var list []api.Packet
	for client := range clients {
		if _, there := p.with[client]; there {
			p.see(ticked, true)
			list = append(list, p.pump(client)...)
		}
	}
	return list
}

func (p *plain) Sync() []api.Packet {
	p.store.Sync()
	p.see(syncedNothing, len(p.untold) == 0)
	p.see(syncedOne, len(p.untold) == 1)
	p.see(syncedSeveral, len(p.untold) > 1)
	var rest []api.Batch
	for _, b := range p.untold {
		switch {
		case b.LSN > p.store.Durable():
			rest = append(rest, b)
		case p.Live(b.Client) == b.Epoch:
			p.say(b.Client, done(b.Txn))
		default:
			p.see(syncedOver, true)
		}
	}
	p.untold = rest
	return p.pumpFresh()
}

// noise is a row of numbers that hangs on where it begins alone.
type noise uint64

func (n *noise) below(many int) int {
	*n ^= *n << 13
	*n ^= *n >> 7
	*n ^= *n << 17
	return int(uint64(*n) % uint64(many))
}

// step is one call, or what happens to the devices.
type step struct {
	kind   int
	packet api.Packet
	n      int
}

const (
	gets = iota
	ticks
	syncs
	checks
	limits
)

func (s step) do(w *side) []api.Packet {
	switch s.kind {
	case gets:
		return w.h.Got(s.packet)
	case ticks:
		return w.h.Tick()
	case syncs:
		return w.h.Sync()
	case checks:
		w.s.Checkpoint()
	case limits:
		w.x.Limit(s.n)
	}
	return nil
}

// step is one call: in most cases one that does something in this state. The deafer the clients, the seldomer they tell what
// came; the livelier, the seldomer there are Ticks.
func (n *noise) step(p *plain, deaf, lively int) step {
	switch at := n.below(100); {
	case at < 4 && n.below(lively) == 0:
		return step{kind: ticks}
	case at < 9:
		return step{kind: syncs}
	case at < 10:
		return step{kind: checks}
	case at < 11:
		return step{kind: limits, n: []int{300, 600, 20000}[n.below(3)]}
	case at < 14:
		client := n.below(clients)
		return step{packet: hello(client, max(p.greatest[client]-1+n.below(3), 0))}
	case at < 96:
		return step{packet: n.packet(p, deaf)}
	}
	return step{packet: n.stranger(p, deaf)}
}

// packet is a client's in its session, in most cases the next one.
func (n *noise) packet(p *plain, deaf int) api.Packet {
	client := n.below(clients)
	with, there := p.with[client]
	if !there {
		return hello(client, p.greatest[client]+n.below(3))
	}
	k := api.Packet{Client: client, Epoch: with.epoch, Boot: p.boot, Seq: with.heard + 1, Ack: with.came, Body: bytesOf(n.message(p, client))}
	if n.below(deaf) == 0 {
		k.Ack = with.came + n.below(with.pushed-with.came+1)
	}
	switch n.below(25) {
	case 0:
		k.Body = unread()[n.below(len(unread()))]
	case 1, 2:
		k.Seq, k.Body = 0, nil
	case 3:
		k.Seq = with.heard
	case 4:
		k.Seq = with.heard + 2
	case 5:
		k.Seq = n.below(with.heard + 5)
	case 6:
		k.Ack = with.pushed + 1 + n.below(9)
	case 7:
		k.Ack = max(with.came-n.below(5), 0)
	}
	return k
}

// stranger is one that isn't of a session.
func (n *noise) stranger(p *plain, deaf int) api.Packet {
	k := n.packet(p, deaf)
	switch n.below(9) {
	case 0:
		k.Boot = p.boot + 1 + n.below(3)
	case 1:
		k.Boot = max(p.boot-1, 1)
	case 2:
		k.Epoch++
		k.Boot = p.boot
	case 3:
		k.Epoch = max(k.Epoch-1, 0)
		k.Boot = n.below(6)
	case 4:
		k.Epoch = 0
	case 5:
		k.Client = n.below(clients)
	case 6:
		k.Server = true
	case 7:
		k.Body = make([]byte, 701)
	case 8:
		at := []*int{&k.Client, &k.Epoch, &k.Boot, &k.Seq, &k.Ack}[n.below(5)]
		*at = []int{math.MinInt, -1, maxNum + 1, math.MaxInt}[n.below(4)]
	}
	return k
}

// message is what a client says: an ask, an answer to a call, a Release, a Commit, or anything.
func (n *noise) message(p *plain, client int) api.Msg {
	switch at := n.below(20); {
	case at < 6:
		return api.Msg{Kind: n.below(2), Page: n.below(3), Obj: n.below(objs)}
	case at < 12:
		return n.reply(p, client)
	case at < 14:
		page := n.below(3)
		return release(page, n.below(all+1)&p.Copies(client, page), n.below(all+1)&p.Own(client, page))
	case at < 19:
		return n.commit(p, client)
	}
	list := []api.Msg{askRead(5, 3), grant(1, all, all), call(1, 1, true), done(n.below(9)), fail(n.below(9), 61), release(n.below(pages), n.below(16), n.below(16)), busy(n.below(3), n.below(objs), true)}
	return list[n.below(len(list))]
}

// reply is what a client may say to one of the last calls that it was told.
func (n *noise) reply(p *plain, client int) api.Msg {
	said := p.with[client].said
	said = said[max(len(said)-6, 0):]
	for range 6 {
		if len(said) == 0 {
			break
		}
		m, _ := msg.Read(said[n.below(len(said))])
		if m.Kind != api.Call {
			continue
		}
		if n.below(3) > 0 {
			return busy(m.Page, m.Obj, m.Write)
		}
		if m.Write {
			return release(m.Page, 1<<m.Obj, 1<<m.Obj)
		}
		return release(m.Page, 0, []int{all, 1 << m.Obj}[n.below(2)])
	}
	return askWrite(n.below(3), n.below(objs))
}

// commit is one of some of what a client owns, and seldom of something else, too.
func (n *noise) commit(p *plain, client int) api.Msg {
	m := commits(n.below(60))
	for page := range 3 {
		for obj := range objs {
			if p.Own(client, page)>>obj&1 == 1 && n.below(2) == 0 || n.below(60) == 0 {
				m.Puts = append(m.Puts, put(page, obj, complex(float64(n.below(1000)), 1)))
			}
		}
	}
	return m
}

// twins are a host and a plain one, each with devices of its own.
func twins(t *testing.T, frames, boot, patience int, seen *[kinds]int) (*side, *side, *plain) {
	t.Helper()
	w := opened(t, tape.New(20000), sector.New(pages), frames, boot, patience)
	x := side{x: tape.New(20000), d: sector.New(pages)}
	x.s, _ = store.Open(x.x, x.d, frames)
	p := newPlain(boot, patience, x.s, seen)
	x.h = p
	return &w.side, &x, p
}

// both does one thing to a host and to a plain one, and holds what they answer and tell against each other.
func both(t *testing.T, w, x *side, s step) {
	t.Helper()
	got, want := s.do(w), s.do(x)
	if !samePackets(got, want) {
		t.Fatalf("%+v:\n%snot\n%s", s, packetsTold(got), packetsTold(want))
	}
	if show(w) != show(x) {
		t.Fatalf("behind %+v something else is told", s)
	}
}

// fallen is what becomes of both behind a crash, and with a new start.
func fallen(t *testing.T, n *noise, w, x *side, boot, frames, patience int, seen *[kinds]int) *plain {
	t.Helper()
	keep, mask := n.below(3)*n.below(100), n.below(64)
	var p *plain
	for _, of := range []*side{w, x} {
		of.x.Crash(keep)
		of.d.Crash(mask)
		s, e := store.Open(of.x, of.d, frames)
		if e != api.OK {
			t.Fatal(e)
		}
		of.s = s
	}
	w.h, p = host.New(boot, patience, w.s), newPlain(boot, patience, x.s, seen)
	x.h = p
	return p
}

// P19.1 to P19.5: long rows of all calls mixed, of clients that tell often or seldom what came, with crashes and new starts,
// held against a plain host.
func TestLongRows(t *testing.T) {
	t.Parallel()
	n := noise(88172645463325252)
	var seen [kinds]int
	for round := range 160 {
		frames, patience := 1+round%pages, []int{-1, 1, 2, 5, 20, 101}[round%6]
		boot := 1 + round%5
		w, x, p := twins(t, frames, boot, patience, &seen)
		deaf := []int{1, 2, 6, 12}[round%4]
		for range 3 {
			both(t, w, x, step{kind: ticks})
			for range 500 {
				both(t, w, x, n.step(p, deaf, 1+patience/4))
			}
			boot++
			p = fallen(t, &n, w, x, boot, frames, patience, &seen)
			if show(w) != show(x) {
				t.Fatal("behind a crash something else is told")
			}
		}
	}
	for kind, often := range seen {
		if often < 100 {
			t.Errorf("kind %d was seen %d times", kind, often)
		}
	}
}

// fewSteps are calls of two clients, of their sessions and of those behind them, with some that may be wrong.
func fewSteps() []step {
	list := []step{{kind: ticks}, {kind: syncs}, {packet: hello(0, 1)}, {packet: hello(0, 2)}, {packet: hello(2, 1)}}
	a, b := &peer{client: 0, epoch: 1}, &peer{client: 2, epoch: 1}
	for _, k := range []api.Packet{
		a.packet(1, 0, bytesOf(askWrite(1, 0))), a.packet(2, 1, bytesOf(commits(1, put(1, 0, 7)))), a.packet(2, 1, bytesOf(release(1, 0, all))), a.packet(3, 1, bytesOf(release(1, all, 0))), a.packet(3, 2, bytesOf(busy(1, 0, true))), a.packet(0, 1, nil),
		b.packet(1, 0, bytesOf(askRead(1, 0))), b.packet(1, 0, bytesOf(askWrite(1, 0))), b.packet(2, 0, bytesOf(commits(2))), b.packet(2, 1, bytesOf(askWrite(1, 3))),
		{Client: 0, Epoch: 1, Boot: boot + 1}, {Client: 0, Epoch: 2, Boot: boot, Seq: 1, Body: bytesOf(askRead(1, 1))},
	} {
		list = append(list, step{packet: k})
	}
	return list
}

// P19.1 to P19.5: all that can come of four calls out of few, of a new host and of one with sessions.
func TestShortRows(t *testing.T) {
	t.Parallel()
	list := fewSteps()
	begins := [][]step{{}, {list[2], list[4], list[5]}, {list[2], list[4], list[5], list[11], list[6]}}
	for _, first := range begins {
		var at [4]int
		for range len(list) * len(list) * len(list) * len(list) {
			w, x, _ := twins(t, 1, boot, 1, nil)
			for _, s := range first {
				s.do(w)
				s.do(x)
			}
			for _, k := range at {
				if got, want := list[k].do(w), list[k].do(x); !samePackets(got, want) {
					t.Fatalf("%d of %d:\n%snot\n%s", k, at, packetsTold(got), packetsTold(want))
				}
			}
			if show(w) != show(x) {
				t.Fatalf("behind %d something else is told", at)
			}
			for k := range at {
				at[k]++
				if at[k] < len(list) {
					break
				}
				at[k] = 0
			}
		}
	}
}

func samePackets(a, b []api.Packet) bool {
	if len(a) != len(b) {
		return false
	}
	for n := range a {
		p, q := a[n], b[n]
		if p.Client != q.Client || p.Epoch != q.Epoch || p.Boot != q.Boot || p.Seq != q.Seq || p.Ack != q.Ack || p.Server != q.Server || string(p.Body) != string(q.Body) {
			return false
		}
	}
	return true
}

// P2: rows of different hosts that are gone on with by turns.
func TestLongRowsByTurns(t *testing.T) {
	n := noise(362436069)
	var list, beside [3]*side
	var of [3]*plain
	for k := range list {
		list[k], beside[k], of[k] = twins(t, 2, 1+k, 4, nil)
	}
	for range 6000 {
		k := n.below(len(list))
		both(t, list[k], beside[k], n.step(of[k], 4, 1))
	}
}
