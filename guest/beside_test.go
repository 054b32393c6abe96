package guest_test

import (
	"math"
	"slices"
	"testing"

	"cloakroom/agent"
	"cloakroom/api"
	"cloakroom/guest"
	"cloakroom/msg"
)

// plain is a guest as the chapter tells it: all bodies that were said in the session are kept, with how many of them were
// pushed and how many of those came. Without a link its boot is 0.
type plain struct {
	client, epoch, boot int
	agent               *agent.Agent
	said                [][]byte
	pushed, came, heard int
	// asked is what was asked last for which the agent waits: the rows' server answers that.
	asked api.Op
}

func newPlain(client, epoch, many int) *plain {
	return &plain{client: client, epoch: epoch, agent: agent.New(many)}
}

func (p *plain) Epoch() int          { return p.epoch }
func (p *plain) Boot() int           { return p.boot }
func (p *plain) Agent() *agent.Agent { return p.agent }

// late tells whether the outbox isn't empty.
func (p *plain) late() bool {
	return p.pushed < len(p.said)
}

func (p *plain) Tick() []api.Packet {
	if p.boot == 0 {
		return []api.Packet{{Client: p.client, Epoch: p.epoch}}
	}
	p.pushed = min(len(p.said), p.came+window)
	var list []api.Packet
	for n := p.came; n < p.pushed; n++ {
		list = append(list, api.Packet{Client: p.client, Epoch: p.epoch, Boot: p.boot, Seq: n + 1, Ack: p.heard, Body: p.said[n]})
	}
	if len(list) == 0 {
		return []api.Packet{{Client: p.client, Epoch: p.epoch, Boot: p.boot, Ack: p.heard}}
	}
	return list
}

func (p *plain) say(list []api.Msg) {
	for _, m := range list {
		p.said = append(p.said, bytesOf(m))
	}
}

func (p *plain) Do(o api.Op) ([]api.Packet, api.Answer) {
	if p.boot == 0 {
		return nil, api.Answer{Err: 181}
	}
	if p.late() {
		return nil, api.Answer{Err: 182}
	}
	list, x := p.agent.Do(o)
	if x.Waits {
		p.asked = o
	}
	if len(list) == 0 {
		return nil, x
	}
	p.say(list)
	return p.Tick(), x
}

func (p *plain) Got(k api.Packet) ([]api.Packet, api.Answer, bool) {
	mine := k.Server && k.Client == p.client && k.Epoch == p.epoch
	switch {
	case !mine, k.Boot < 0, k.Boot > 16777215:
		return nil, api.Answer{}, false
	case k.Boot == 0, p.boot > 0 && p.boot < k.Boot:
		x, ok := p.agent.Lost(181)
		*p = plain{client: p.client, epoch: min(p.epoch+1, 16777215), agent: p.agent}
		return p.Tick(), x, ok
	case p.boot > k.Boot:
		return nil, api.Answer{}, false
	}
	p.boot = k.Boot
	told := false
	if k.Ack <= p.pushed {
		p.came = max(p.came, k.Ack)
		told = k.Seq == p.heard+1
	}
	if !told && !p.late() {
		return nil, api.Answer{}, false
	}
	var x api.Answer
	ok := false
	if told {
		p.heard++
		if m, e := msg.Read(k.Body); e == api.OK {
			var list []api.Msg
			list, x, ok = p.agent.Got(m)
			p.say(list)
		}
	}
	return p.Tick(), x, ok
}

// noise is a row of numbers that hangs on where it begins alone.
type noise uint64

func (n *noise) below(many int) int {
	*n ^= *n << 13
	*n ^= *n >> 7
	*n ^= *n << 17
	return int(uint64(*n) % uint64(many))
}

// told is what a call told, zero where it tells nothing of that kind.
type told struct {
	list   []api.Packet
	answer api.Answer
	ok     bool
}

func (a told) same(b told) bool {
	return packetsTold(a.list) == packetsTold(b.list) && sameAnswer(a.answer, b.answer) && a.ok == b.ok
}

// step is one call.
type step struct {
	kind   int
	op     api.Op
	packet api.Packet
}

const (
	does = iota
	gets
	ticks
)

func (s step) do(g anyGuest) told {
	var a told
	switch s.kind {
	case does:
		a.list, a.answer = g.Do(s.op)
	case gets:
		a.list, a.answer, a.ok = g.Got(s.packet)
	case ticks:
		a.list = g.Tick()
	}
	return a
}

// step is one call: in most cases one that does something in this state. The deafer the server, the seldomer it tells
// what came.
func (n *noise) step(p *plain, deaf int) step {
	switch at := n.below(100); {
	case at < 6:
		return step{kind: ticks}
	case at < 40:
		return step{op: n.op(p)}
	case at < 97:
		return step{kind: gets, packet: n.packet(p, deaf)}
	}
	return step{kind: gets, packet: n.stranger(p, deaf)}
}

// op is one that may be asked, in most cases.
func (n *noise) op(p *plain) api.Op {
	o := api.Op{Kind: n.below(7) - 1, Page: n.below(3), Obj: n.below(objs), Value: complex(float64(n.below(100)), 1)}
	switch n.below(4) {
	case 0, 1:
		o.Kind = api.OpRead + n.below(2)
	case 2:
		if !p.agent.Open() {
			o.Kind = api.OpBegin
		}
	}
	if n.below(40) == 0 {
		o.Page = pages
	}
	return o
}

// packet is the server's in this session, in most cases the next one.
func (n *noise) packet(p *plain, deaf int) api.Packet {
	k := api.Packet{Client: p.client, Epoch: p.epoch, Boot: p.boot, Seq: p.heard + 1, Ack: p.came, Server: true, Body: bytesOf(n.message(p))}
	if p.boot == 0 {
		k.Boot = 1 + n.below(5)
	}
	if n.below(deaf) == 0 {
		k.Ack = p.came + n.below(p.pushed-p.came+1)
	}
	switch n.below(25) {
	case 0:
		k.Body = unread()[n.below(len(unread()))]
	case 1, 2:
		k.Seq, k.Body = 0, nil
	case 3:
		k.Seq = p.heard
	case 4:
		k.Seq = p.heard + 2
	case 5:
		k.Seq = n.below(p.heard + 5)
	case 6:
		k.Ack = p.pushed + 1 + n.below(9)
	case 7:
		k.Ack = p.came - n.below(5)
	}
	return k
}

// stranger is one that isn't of this session.
func (n *noise) stranger(p *plain, deaf int) api.Packet {
	k := n.packet(p, deaf)
	switch n.below(8) {
	case 0:
		k.Boot = 0
	case 1:
		k.Boot = p.boot + 1 + n.below(3)
	case 2:
		k.Boot = max(p.boot-1, 0)
	case 3:
		k.Boot = []int{math.MinInt, -1, maxNum + 1, math.MaxInt}[n.below(4)]
	case 4:
		k.Epoch++
	case 5:
		k.Epoch--
		k.Boot = n.below(6)
	case 6:
		k.Client = n.below(5)
	case 7:
		k.Server = false
	}
	return k
}

// message is what the server says: to what is waited for, a call, or anything.
func (n *noise) message(p *plain) api.Msg {
	switch at := n.below(10); {
	case at < 5 && p.agent.Waits():
		return n.reply(p)
	case at < 8:
		return call(n.below(3), n.below(objs), n.below(2) == 0)
	case at < 9:
		return grant(n.below(3), n.below(all+1), n.below(all+1))
	}
	list := []api.Msg{askRead(1, 1), askWrite(0, 2), commits(3, put(1, 1, 1)), release(1, 3, 3), busy(1, 1, true), done(n.below(9)), fail(n.below(9), 61)}
	return list[n.below(len(list))]
}

// reply is what the server may say to what is waited for.
func (n *noise) reply(p *plain) api.Msg {
	if n.below(8) == 0 {
		return fail(0, api.ErrDeadlock)
	}
	if p.asked.Kind == api.OpCommit {
		return done(p.agent.Txn())
	}
	return grant(p.asked.Page, all, []int{all, 1 << p.asked.Obj, 0}[n.below(3)])
}

// both does one thing to a guest and to a plain one, and holds what they answer and tell against each other.
func both(t *testing.T, g *guest.Guest, p *plain, s step) told {
	t.Helper()
	got, want := s.do(g), s.do(p)
	if !got.same(want) {
		t.Fatalf("%+v: %+v %t and\n%snot %+v %t and\n%s", s, got.answer, got.ok, packetsTold(got.list), want.answer, want.ok, packetsTold(want.list))
	}
	if got, want := show(g), show(p); got != want {
		t.Fatalf("behind %+v: %+v, not %+v", s, got, want)
	}
	return got
}

// What is to be seen often in long rows.
const (
	wasLost = iota
	wasLate
	wasRefused
	didWithout
	didSay
	didSaySeveral
	helloed
	tickedNothing
	tickedSome
	tickedLate
	linked
	linkedTold
	lost
	lostWaiting
	lostLate
	strange
	saidTo
	saidMany
	saidNothing
	unreadable
	answered
	untold
	untoldLate
	madeRoom
	tooMuch
	kinds
)

// look tells of which kinds a step was, ahead of which the plain guest was so.
func look(was, is plain, waited bool, s step, a told) []int {
	var list []int
	see := func(kind int, holds bool) {
		if holds {
			list = append(list, kind)
		}
	}
	do, get, tick := s.kind == does, s.kind == gets, s.kind == ticks
	see(wasLost, do && a.answer.Err == api.ErrLost)
	see(wasLate, do && a.answer.Err == api.ErrLate)
	see(wasRefused, do && (a.answer.Err == api.ErrState || a.answer.Err == api.ErrPlace))
	see(didWithout, do && a.answer.Err == api.OK && len(a.list) == 0)
	see(didSay, do && len(is.said) == len(was.said)+1)
	see(didSaySeveral, do && len(is.said) > len(was.said)+1)
	see(helloed, tick && was.boot == 0)
	see(tickedNothing, tick && was.boot > 0 && was.pushed == was.came)
	see(tickedSome, tick && was.pushed > was.came)
	see(tickedLate, tick && was.late())
	see(linked, get && was.boot == 0 && is.boot > 0)
	see(linkedTold, get && was.boot == 0 && is.heard > 0)
	gone := get && is.epoch > was.epoch
	see(lost, gone && !waited)
	see(lostWaiting, gone && waited && a.ok && a.answer.Err == api.ErrLost)
	see(lostLate, gone && was.late())
	see(strange, get && len(a.list) == 0 && s.packet.Boot != was.boot)
	heard := get && is.heard == was.heard+1
	said := len(is.said) - len(was.said)
	_, e := msg.Read(s.packet.Body)
	see(saidTo, heard && said == 1)
	see(saidMany, heard && said > 1)
	see(saidNothing, heard && said == 0 && e == api.OK)
	see(unreadable, heard && e != api.OK)
	see(answered, heard && a.ok)
	see(untold, get && !gone && !heard && is.boot > 0 && !was.late() && s.packet.Boot == was.boot)
	see(untoldLate, get && !gone && !heard && was.late() && len(a.list) > 0)
	see(madeRoom, get && !gone && was.late() && is.pushed > was.pushed)
	see(tooMuch, get && s.packet.Boot == was.boot && was.boot > 0 && s.packet.Ack > was.pushed && s.packet.Seq == was.heard+1)
	return list
}

// P18.1 to P18.4: long rows of all calls mixed, of servers that tell often or seldom what came, held against a plain guest;
// in the end all that is in the outbox comes out.
func TestLongRows(t *testing.T) {
	n := noise(88172645463325252)
	var seen [kinds]int
	for round := range 480 {
		client, epoch, many := round%4, 1+round%7, round%8
		if round%10 == 0 {
			epoch = maxNum - 2
		}
		g, p := guest.New(client, epoch, many), newPlain(client, epoch, many)
		deaf := []int{1, 2, 6, 12, 40}[round%5]
		for range 500 {
			s := n.step(p, deaf)
			was, waited := *p, p.agent.Waits()
			a := both(t, g, p, s)
			for _, kind := range look(was, *p, waited, s, a) {
				seen[kind]++
			}
		}
		for p.came < len(p.said) {
			both(t, g, p, step{kind: gets, packet: api.Packet{Client: client, Epoch: p.epoch, Boot: p.boot, Ack: p.came + 1, Server: true}})
		}
	}
	if slices.Min(seen[:]) < 100 {
		t.Errorf("too little of some kind: %d", seen)
	}
}

// fewSteps are calls of one session, of those behind it, and of elder ones, with all that may be wrong with a packet.
func fewSteps() []step {
	list := []step{{kind: ticks}, {op: begin()}, {op: read(1, 0)}, {op: write(1, 0, 7)}, {op: commit()}, {op: abort()}, {op: read(6, 0)}}
	for _, boot := range []int{0, 1, 2} {
		for _, epoch := range []int{epoch, epoch + 1} {
			list = append(list, step{kind: gets, packet: api.Packet{Client: client, Epoch: epoch, Boot: boot, Server: true}})
		}
	}
	for _, m := range []api.Msg{call(1, 0, true), grant(1, all, all), done(1)} {
		for seq := 1; seq <= 2; seq++ {
			p := down(seq, seq-1, m)
			p.Boot = 1
			list = append(list, step{kind: gets, packet: p})
		}
	}
	return list
}

// P18.1 to P18.4: all that can come of four calls out of few, of a new guest and of one in a session.
func TestShortRows(t *testing.T) {
	list := fewSteps()
	begins := [][]step{{}, {{kind: gets, packet: api.Packet{Client: client, Epoch: epoch, Boot: 1, Server: true}}, {op: begin()}}}
	for _, first := range begins {
		var at [4]int
		for range len(list) * len(list) * len(list) * len(list) {
			g, p := guest.New(client, epoch, 1), newPlain(client, epoch, 1)
			for _, s := range first {
				s.do(g)
				s.do(p)
			}
			for _, k := range at {
				s := list[k]
				if got, want := s.do(g), s.do(p); !got.same(want) {
					t.Fatalf("%d of %d: %+v, not %+v", k, at, got, want)
				}
			}
			if got, want := show(g), show(p); got != want {
				t.Fatalf("behind %d: %+v, not %+v", at, got, want)
			}
			for k := range at {
				at[k]++
				if at[k] < len(list) {
					break
				}
				at[k] = 0
			}
		}
	}
}

// P2: rows of different guests that are gone on with by turns.
func TestLongRowsByTurns(t *testing.T) {
	n := noise(362436069)
	var list [4]*guest.Guest
	var beside [4]*plain
	for k := range list {
		list[k], beside[k] = guest.New(k, 1, 2), newPlain(k, 1, 2)
	}
	for range 12000 {
		k := n.below(len(list))
		both(t, list[k], beside[k], n.step(beside[k], 5))
	}
}
