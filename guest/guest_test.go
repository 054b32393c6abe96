package guest_test

import (
	"fmt"
	"math"
	"strings"
	"testing"

	"cloakroom/agent"
	"cloakroom/api"
	"cloakroom/cnum"
	"cloakroom/guest"
	"cloakroom/msg"
)

const (
	maxNum = 16777215
	window = 8
	pages  = 6
	objs   = 4
	all    = 15
	// The session of most tests.
	client = 1
	epoch  = 4
	boot   = 3
)

func begin() api.Op  { return api.Op{Kind: api.OpBegin} }
func commit() api.Op { return api.Op{Kind: api.OpCommit} }
func abort() api.Op  { return api.Op{Kind: api.OpAbort} }

func read(page, obj int) api.Op {
	return api.Op{Kind: api.OpRead, Page: page, Obj: obj}
}

func write(page, obj int, v complex128) api.Op {
	return api.Op{Kind: api.OpWrite, Page: page, Obj: obj, Value: v}
}

func askRead(page, obj int) api.Msg {
	return api.Msg{Kind: api.AskRead, Page: page, Obj: obj}
}

func askWrite(page, obj int) api.Msg {
	return api.Msg{Kind: api.AskWrite, Page: page, Obj: obj}
}

func commits(txn int, puts ...api.Put) api.Msg {
	return api.Msg{Kind: api.Commit, Txn: txn, Puts: puts}
}

func release(page, copies, own int) api.Msg {
	return api.Msg{Kind: api.Release, Page: page, Copy: copies, Own: own}
}

func busy(page, obj int, write bool) api.Msg {
	return api.Msg{Kind: api.Busy, Page: page, Obj: obj, Write: write}
}

func grant(page, copies, own int) api.Msg {
	return api.Msg{Kind: api.Grant, Page: page, Copy: copies, Own: own, Values: values(page)}
}

func call(page, obj int, write bool) api.Msg {
	return api.Msg{Kind: api.Call, Page: page, Obj: obj, Write: write}
}

func done(txn int) api.Msg {
	return api.Msg{Kind: api.Done, Txn: txn}
}

func fail(txn int, e api.Errno) api.Msg {
	return api.Msg{Kind: api.Fail, Txn: txn, Copy: int(e)}
}

func put(page, obj int, v complex128) api.Put {
	return api.Put{Page: page, Obj: obj, Value: v}
}

// values are those of a page's objects, which no other page has.
func values(page int) [objs]complex128 {
	var list [objs]complex128
	for k := range list {
		list[k] = complex(float64(10*page+k), 1)
	}
	return list
}

// Answers that are met often.
var (
	fine    = api.Answer{}
	waiting = api.Answer{Waits: true}
)

func failed(e api.Errno) api.Answer {
	return api.Answer{Err: e}
}

func valued(v complex128) api.Answer {
	return api.Answer{Value: v}
}

func sameAnswer(a, b api.Answer) bool {
	return a.Err == b.Err && a.Waits == b.Waits && cnum.Same(a.Value, b.Value)
}

// bytesOf are those of a message that can be.
func bytesOf(m api.Msg) []byte {
	b, e := msg.Bytes(m)
	if e != api.OK {
		panic("the test's own message isn't right")
	}
	return b
}

// up is a packet of the client in the session of most tests.
func up(seq, ack int, m api.Msg) api.Packet {
	return api.Packet{Client: client, Epoch: epoch, Boot: boot, Seq: seq, Ack: ack, Body: bytesOf(m)}
}

// upBare is one that has nothing but up to where all came.
func upBare(ack int) api.Packet {
	return api.Packet{Client: client, Epoch: epoch, Boot: boot, Ack: ack}
}

// down is a packet of the server in that session.
func down(seq, ack int, m api.Msg) api.Packet {
	return api.Packet{Client: client, Epoch: epoch, Boot: boot, Seq: seq, Ack: ack, Server: true, Body: bytesOf(m)}
}

func downBare(ack int) api.Packet {
	return api.Packet{Client: client, Epoch: epoch, Boot: boot, Ack: ack, Server: true}
}

// hello is what a client without a session says in an epoch.
func hello(epoch int) api.Packet {
	return api.Packet{Client: client, Epoch: epoch}
}

func packetTold(p api.Packet) string {
	return fmt.Sprintf("client %d epoch %d boot %d seq %d ack %d server %t body %x\n", p.Client, p.Epoch, p.Boot, p.Seq, p.Ack, p.Server, p.Body)
}

func packetsTold(list []api.Packet) string {
	var b strings.Builder
	for _, p := range list {
		b.WriteString(packetTold(p))
	}
	return b.String()
}

// shown is all that is told of a guest by calls that change nothing: what it is asked that it can't do is refused by no
// link, by an outbox that isn't empty, or by its agent.
type shown struct {
	epoch, boot, txn int
	open, waits      bool
	copies, own      [pages]int
	tick             string
	refused          api.Errno
}

func show(g anyGuest) shown {
	a := g.Agent()
	s := shown{epoch: g.Epoch(), boot: g.Boot(), txn: a.Txn(), open: a.Open(), waits: a.Waits(), tick: packetsTold(g.Tick())}
	for page := range pages {
		s.copies[page], s.own[page] = a.Copies(page), a.Own(page)
	}
	_, x := g.Do(api.Op{Kind: 99})
	s.refused = x.Err
	return s
}

// anyGuest is a guest, or a plain one.
type anyGuest interface {
	Do(o api.Op) ([]api.Packet, api.Answer)
	Got(p api.Packet) ([]api.Packet, api.Answer, bool)
	Tick() []api.Packet
	Epoch() int
	Boot() int
	Agent() *agent.Agent
}

func checkDo(t *testing.T, g *guest.Guest, o api.Op, want api.Answer, sent ...api.Packet) {
	t.Helper()
	before := show(g)
	list, x := g.Do(o)
	if packetsTold(list) != packetsTold(sent) || !sameAnswer(x, want) {
		t.Errorf("Do %+v: %+v and\n%snot %+v and\n%s", o, x, packetsTold(list), want, packetsTold(sent))
	}
	if want.Err != api.OK && show(g) != before {
		t.Errorf("Do %+v was refused and has changed something", o)
	}
}

func checkGot(t *testing.T, g *guest.Guest, p api.Packet, want api.Answer, wantOK bool, sent ...api.Packet) {
	t.Helper()
	list, x, ok := g.Got(p)
	if packetsTold(list) != packetsTold(sent) || !sameAnswer(x, want) || ok != wantOK {
		t.Errorf("Got %s%+v %t and\n%snot %+v %t and\n%s", packetTold(p), x, ok, packetsTold(list), want, wantOK, packetsTold(sent))
	}
}

// checkSaid hands in a packet by which nothing is answered.
func checkSaid(t *testing.T, g *guest.Guest, p api.Packet, sent ...api.Packet) {
	t.Helper()
	checkGot(t, g, p, fine, false, sent...)
}

// checkNothing hands in a packet that does nothing.
func checkNothing(t *testing.T, g *guest.Guest, p api.Packet) {
	t.Helper()
	before := show(g)
	checkSaid(t, g, p)
	if after := show(g); after != before {
		t.Errorf("Got %shas changed something: %+v is %+v", packetTold(p), before, after)
	}
}

func checkTick(t *testing.T, g *guest.Guest, sent ...api.Packet) {
	t.Helper()
	if list := g.Tick(); packetsTold(list) != packetsTold(sent) {
		t.Errorf("Tick:\n%snot\n%s", packetsTold(list), packetsTold(sent))
	}
}

func checkSession(t *testing.T, g *guest.Guest, epoch, boot int) {
	t.Helper()
	if g.Epoch() != epoch || g.Boot() != boot {
		t.Errorf("epoch %d and boot %d, not %d and %d", g.Epoch(), g.Boot(), epoch, boot)
	}
}

func checkAgent(t *testing.T, g *guest.Guest, open bool, txn int, waits bool) {
	t.Helper()
	if a := g.Agent(); a.Open() != open || a.Txn() != txn || a.Waits() != waits {
		t.Errorf("open %t, transaction %d, waits %t; not %t, %d, %t", a.Open(), a.Txn(), a.Waits(), open, txn, waits)
	}
}

func checkMasks(t *testing.T, g *guest.Guest, page, copies, own int) {
	t.Helper()
	if a := g.Agent(); a.Copies(page) != copies || a.Own(page) != own {
		t.Errorf("page %d: %d are copies and %d owned, not %d and %d", page, a.Copies(page), a.Own(page), copies, own)
	}
}

// talk is a guest in a session in which nothing is lost: how much the server and the client have said, all of which came.
type talk struct {
	t         *testing.T
	g         *guest.Guest
	seq, sent int
}

// met is a new guest in a session in which nothing was said.
func met(t *testing.T, many int) *talk {
	t.Helper()
	g := guest.New(client, epoch, many)
	checkSaid(t, g, downBare(0))
	checkSession(t, g, epoch, boot)
	return &talk{t: t, g: g}
}

// says are the packets of what is said now; of nothing a bare one.
func (k *talk) says(list ...api.Msg) []api.Packet {
	if len(list) == 0 {
		return []api.Packet{upBare(k.seq)}
	}
	var sent []api.Packet
	for _, m := range list {
		k.sent++
		sent = append(sent, up(k.sent, k.seq, m))
	}
	return sent
}

// asks has the application ask something for which the server is asked that, when all came that was said ahead of it.
func (k *talk) asks(o api.Op, m api.Msg) {
	k.t.Helper()
	k.hears()
	checkDo(k.t, k.g, o, waiting, k.says(m)...)
}

// does has it ask something that is answered at once: nothing is sent, but what is said, when all came that was said ahead
// of it.
func (k *talk) does(o api.Op, want api.Answer, said ...api.Msg) {
	k.t.Helper()
	if len(said) == 0 {
		checkDo(k.t, k.g, o, want)
		return
	}
	k.hears()
	checkDo(k.t, k.g, o, want, k.says(said...)...)
}

// tells has the server say something by which nothing is answered, but that is said.
func (k *talk) tells(m api.Msg, said ...api.Msg) {
	k.t.Helper()
	k.seq++
	p := down(k.seq, k.sent, m)
	checkSaid(k.t, k.g, p, k.says(said...)...)
}

// answers has the server say something by which what waits is answered.
func (k *talk) answers(m api.Msg, want api.Answer, said ...api.Msg) {
	k.t.Helper()
	k.seq++
	p := down(k.seq, k.sent, m)
	checkGot(k.t, k.g, p, want, true, k.says(said...)...)
}

// hears has the server say no more than that all came.
func (k *talk) hears() {
	k.t.Helper()
	checkSaid(k.t, k.g, downBare(k.sent))
}

// has gives it a page by a transaction of its own.
func (k *talk) has(page, copies, own int) *talk {
	k.t.Helper()
	obj := lowest(copies)
	k.does(begin(), fine)
	k.asks(read(page, obj), askRead(page, obj))
	k.answers(grant(page, copies, own), valued(values(page)[obj]))
	k.does(abort(), fine)
	checkMasks(k.t, k.g, page, copies, own)
	return k
}

// lowest is the first object of a mask.
func lowest(mask int) int {
	for k := range objs {
		if mask>>k&1 == 1 {
			return k
		}
	}
	return 0
}

// crowd is a guest behind so many calls, which it has said a Release to each, nothing of which is known to have come: what
// the window has no room for is in the outbox.
func crowd(t *testing.T, many int) *guest.Guest {
	t.Helper()
	g := guest.New(client, epoch, 2)
	checkSaid(t, g, downBare(0))
	for n := 1; n <= many; n++ {
		checkSaid(t, g, down(n, 0, crowdCall(n)), crowdSaid(0, min(n, window), n)...)
	}
	return g
}

func crowdCall(n int) api.Msg {
	return call(n%pages, n/pages%objs, n%5 == 0)
}

// crowdSaid are the packets of what was said in a crowd behind the first ones, up to the last ones.
func crowdSaid(behind, last, ack int) []api.Packet {
	var list []api.Packet
	for n := behind + 1; n <= last; n++ {
		c := crowdCall(n)
		m := release(c.Page, 0, 1<<c.Obj)
		if c.Write {
			m.Copy = m.Own
		}
		list = append(list, up(n, ack, m))
	}
	if len(list) == 0 {
		return []api.Packet{upBare(ack)}
	}
	return list
}

// wrong are numbers that are no kind, page or object, where least is the first one above the greatest: those about the
// edges of 64 bits, and such as have the lowest bits of those that can be.
func wrong(least int) []int {
	return []int{math.MinInt, math.MinInt + 1, math.MinInt + 3, math.MinInt32, -1<<32 + 1, -256, -16, -2, -1, least, least + 1, 2*least + 1, 255, 256, 257,
		1 << 31, 1 << 32, 1<<32 + 1, 1<<32 + 3, 1<<62 + 1, math.MaxInt - 1, math.MaxInt}
}

// allOps are ops of each kind, with those that can't be.
func allOps() []api.Op {
	list := []api.Op{begin(), read(0, 0), read(5, 3), read(6, 0), read(0, -1), write(0, 0, 9), write(5, 3, 9), write(-1, 0, 9), write(0, 4, 9), commit(), abort()}
	for _, kind := range wrong(5) {
		list = append(list, api.Op{Kind: kind}, api.Op{Kind: kind, Page: 1, Obj: 2, Value: 3})
	}
	return list
}

// The chapter's example.
func TestExample(t *testing.T) {
	g := guest.New(2, 7, 3)
	checkTick(t, g, api.Packet{Client: 2, Epoch: 7})
	checkSession(t, g, 7, 0)
	checkSaid(t, g, api.Packet{Client: 2, Epoch: 7, Boot: 1, Server: true})
	checkSession(t, g, 7, 1)
	checkDo(t, g, begin(), fine)
	checkTick(t, g, api.Packet{Client: 2, Epoch: 7, Boot: 1})
}

// The section Errors and the limits.
func TestNumbers(t *testing.T) {
	if api.ErrLost != 181 || api.ErrLate != 182 || api.MaxWindow != window || api.MaxNum != maxNum {
		t.Error(api.ErrLost, api.ErrLate, api.MaxWindow, api.MaxNum)
	}
}

// P18.1: no link, an empty outbox, and an agent that isn't open and has nothing.
func TestNew(t *testing.T) {
	for client := range 4 {
		for _, epoch := range []int{1, 2, 256, maxNum - 1, maxNum} {
			for _, many := range append(wrong(7), 1, 2, 6) {
				g := guest.New(client, epoch, many)
				checkSession(t, g, epoch, 0)
				checkAgent(t, g, false, 0, false)
				for page := -1; page <= pages; page++ {
					checkMasks(t, g, page, 0, 0)
				}
				checkTick(t, g, api.Packet{Client: client, Epoch: epoch})
				checkDo(t, g, begin(), failed(api.ErrLost))
				checkSaid(t, g, api.Packet{Client: client, Epoch: epoch, Boot: 9, Server: true})
				checkSession(t, g, epoch, 9)
				checkTick(t, g, api.Packet{Client: client, Epoch: epoch, Boot: 9})
				checkDo(t, g, begin(), fine)
				checkAgent(t, g, true, 1, false)
			}
		}
	}
}

// P18.1: the agent has room for so many pages, below 1 for one, above 6 for six.
func TestNewHasRoom(t *testing.T) {
	for _, many := range append(wrong(7), 1, 2, 3, 4, 5, 6) {
		room := min(max(many, 1), pages)
		k := met(t, many)
		for page := range pages {
			k.does(begin(), fine)
			k.asks(read(page, 0), askRead(page, 0))
			var said []api.Msg
			if page >= room {
				said = append(said, release(page-room, all, all))
			}
			k.answers(grant(page, all, 1), valued(values(page)[0]), said...)
			k.does(abort(), fine)
			for other := range pages {
				if other <= page && other > page-room {
					checkMasks(t, k.g, other, all, 1)
				} else {
					checkMasks(t, k.g, other, 0, 0)
				}
			}
		}
	}
}

// P18.1: Epoch and Boot go with the sessions.
func TestEpochAndBoot(t *testing.T) {
	g := guest.New(client, epoch, 2)
	for n := range 50 {
		p := api.Packet{Client: client, Epoch: epoch + n, Boot: 1 + 7*n, Server: true}
		checkSession(t, g, epoch+n, 0)
		checkSaid(t, g, p)
		checkSession(t, g, epoch+n, 1+7*n)
		p.Boot = []int{0, 2 + 7*n, maxNum}[n%3]
		checkSaid(t, g, p, hello(epoch+n+1))
	}
	checkSession(t, g, epoch+50, 0)
}

// P18.1: Agent is always the same one: that of its own transactions.
func TestAgent(t *testing.T) {
	k := met(t, 2)
	a := k.g.Agent()
	k.does(begin(), fine)
	checkAgent(t, k.g, true, 1, false)
	k.asks(read(2, 1), askRead(2, 1))
	checkAgent(t, k.g, true, 1, true)
	k.answers(grant(2, 6, 4), valued(values(2)[1]))
	checkAgent(t, k.g, true, 1, false)
	checkMasks(t, k.g, 2, 6, 4)
	k.does(abort(), fine)
	checkAgent(t, k.g, false, 1, false)
	checkSaid(t, k.g, api.Packet{Client: client, Epoch: epoch, Server: true}, hello(epoch+1))
	checkMasks(t, k.g, 2, 0, 0)
	checkAgent(t, k.g, false, 1, false)
	if k.g.Agent() != a || met(t, 2).g.Agent() == a {
		t.Error("an agent of another guest, or another one of the same")
	}
}

// unlinked are guests without a link: new ones, and such as have lost it.
func unlinked(t *testing.T) []*guest.Guest {
	t.Helper()
	lost := guest.New(client, epoch-1, 2)
	checkSaid(t, lost, api.Packet{Client: client, Epoch: epoch - 1, Server: true}, hello(epoch))
	late := guest.New(client, epoch-1, 2)
	checkSaid(t, late, api.Packet{Client: client, Epoch: epoch - 1, Boot: 1, Server: true})
	checkSaid(t, late, api.Packet{Client: client, Epoch: epoch - 1, Boot: 2, Server: true}, hello(epoch))
	return []*guest.Guest{guest.New(client, epoch, 2), lost, late}
}

// P18.2: ErrLost without a link, of each kind and of those that there aren't; nothing is sent, and the agent isn't asked.
func TestDoWithoutLink(t *testing.T) {
	for _, g := range unlinked(t) {
		for range 2 {
			for _, o := range allOps() {
				checkDo(t, g, o, failed(api.ErrLost))
				checkAgent(t, g, false, 0, false)
			}
		}
		checkSaid(t, g, downBare(0))
		checkDo(t, g, begin(), fine)
		checkAgent(t, g, true, 1, false)
	}
}

// P18.2: ErrLost behind a lost session also where a transaction was open, and where its agent waited.
func TestDoBehindLost(t *testing.T) {
	for _, last := range []api.Op{begin(), read(3, 1), commit()} {
		k := met(t, 2)
		k.does(begin(), fine)
		k.g.Do(last)
		k.g.Got(api.Packet{Client: client, Epoch: epoch, Server: true})
		for _, o := range allOps() {
			checkDo(t, k.g, o, failed(api.ErrLost))
		}
		checkAgent(t, k.g, false, 1, false)
	}
}

// P18.2: ErrLate, if the outbox isn't empty, of each kind and ahead of the agent's errors; nothing is changed or sent.
func TestDoWithOutbox(t *testing.T) {
	for many := window + 1; many <= 20; many++ {
		g := crowd(t, many)
		for _, o := range allOps() {
			checkDo(t, g, o, failed(api.ErrLate))
			checkAgent(t, g, false, 0, false)
		}
		checkTick(t, g, crowdSaid(0, window, many)...)
		for came := range many - window {
			checkSaid(t, g, downBare(came), crowdSaid(came, came+window, many)...)
			checkDo(t, g, begin(), failed(api.ErrLate))
		}
		checkSaid(t, g, downBare(many-window), crowdSaid(many-window, many, many)...)
		checkDo(t, g, api.Op{Kind: 5}, failed(api.ErrPlace))
		checkDo(t, g, begin(), fine)
	}
}

// P18.2: that the window is full is no ErrLate, as long as the outbox is empty: what is said then is in it.
func TestDoWithFullWindow(t *testing.T) {
	for many := range window + 1 {
		g := crowd(t, many)
		checkDo(t, g, begin(), fine)
		sent := crowdSaid(0, many, many)
		switch many {
		case 0:
			sent = []api.Packet{up(1, 0, askRead(2, 3))}
		case window:
		default:
			sent = append(sent, up(many+1, many, askRead(2, 3)))
		}
		checkDo(t, g, read(2, 3), waiting, sent...)
		checkAgent(t, g, true, 1, true)
		if many < window {
			checkDo(t, g, abort(), failed(api.ErrState))
			continue
		}
		checkDo(t, g, abort(), failed(api.ErrLate))
		checkTick(t, g, crowdSaid(0, window, window)...)
		checkSaid(t, g, downBare(1), append(crowdSaid(1, window, window), up(window+1, window, askRead(2, 3)))...)
		checkDo(t, g, abort(), failed(api.ErrState))
	}
}

// P18.2: the agent's errors are answered, and nothing is sent, whatever is under way.
func TestDoAnswersErrors(t *testing.T) {
	for many := range window + 1 {
		g := crowd(t, many)
		for _, o := range []api.Op{read(0, 0), write(1, 1, 7), commit(), abort()} {
			checkDo(t, g, o, failed(api.ErrState))
		}
		for _, o := range []api.Op{{Kind: -1}, {Kind: 5}, read(6, 0), read(0, 4), write(-1, 0, 7), write(0, -1, 7)} {
			checkDo(t, g, o, failed(api.ErrPlace))
		}
		checkDo(t, g, begin(), fine)
		checkDo(t, g, begin(), failed(api.ErrState))
		checkAgent(t, g, true, 1, false)
	}
}

// P18.2: what the agent needs no server for is answered, and nothing is sent, whatever is under way.
func TestDoWithoutMessages(t *testing.T) {
	k := met(t, 2).has(2, all, 3)
	k.tells(call(5, 0, false), release(5, 0, 1))
	k.does(begin(), fine)
	k.does(read(2, 1), valued(values(2)[1]))
	k.does(write(2, 1, 70), fine)
	k.does(read(2, 1), valued(70))
	k.does(read(2, 3), valued(values(2)[3]))
	k.does(abort(), fine)
	checkTick(t, k.g, up(2, 2, release(5, 0, 1)))
	k.hears()
	k.does(begin(), fine)
	k.does(read(2, 1), valued(values(2)[1]))
	k.does(abort(), fine)
	checkTick(t, k.g, upBare(2))
}

// P18.2: the agent's messages are said: the link's packets are sent, with those that were under way.
func TestDoSays(t *testing.T) {
	k := met(t, 2).has(2, all, 3)
	k.does(begin(), fine)
	k.does(write(2, 0, 70), fine)
	k.does(write(2, 1, 1i), fine)
	k.asks(read(3, 1), askRead(3, 1))
	checkDo(t, k.g, read(3, 1), failed(api.ErrState))
	k.answers(grant(3, 2, 0), valued(values(3)[1]))
	k.asks(write(3, 1, 5), askWrite(3, 1))
	// Nothing is known to have come, so that and what follows are sent.
	k.seq++
	checkGot(t, k.g, down(k.seq, k.sent-1, grant(3, 2, 2)), fine, true, up(k.sent, k.seq, askWrite(3, 1)))
	checkDo(t, k.g, commit(), waiting, up(k.sent, k.seq, askWrite(3, 1)), up(k.sent+1, k.seq, commits(2, put(2, 0, 70), put(2, 1, 1i), put(3, 1, 5))))
	k.sent++
	k.answers(done(2), fine)
}

// P18.2: an abort says a Release to each call that was put off.
func TestDoSaysSeveral(t *testing.T) {
	k := met(t, 2).has(2, all, 7)
	k.does(begin(), fine)
	k.does(write(2, 0, 70), fine)
	k.does(read(2, 3), valued(values(2)[3]))
	k.tells(call(2, 0, true), busy(2, 0, true))
	k.tells(call(2, 3, true), busy(2, 3, true))
	k.tells(call(2, 0, false), busy(2, 0, false))
	k.does(abort(), fine, release(2, 1, 1), release(2, 8, 8), release(2, 0, 1))
	checkMasks(t, k.g, 2, 6, 6)
	k.tells(done(1))
}

// P18.4: HELLO without a link, as often as it is asked for.
func TestTickWithoutLink(t *testing.T) {
	for _, g := range unlinked(t) {
		for range 3 {
			checkTick(t, g, hello(epoch))
		}
		checkSession(t, g, epoch, 0)
	}
	for client := range 4 {
		for _, epoch := range []int{1, 65536, maxNum} {
			checkTick(t, guest.New(client, epoch, 1), api.Packet{Client: client, Epoch: epoch})
		}
	}
}

// P18.4: with a link, and nothing under way, one packet with Seq 0 and what came.
func TestTickOfNothing(t *testing.T) {
	k := met(t, 2)
	for range 3 {
		checkTick(t, k.g, upBare(0))
	}
	for n := 1; n <= 20; n++ {
		k.tells(done(n))
		checkTick(t, k.g, upBare(n))
	}
	k.tells(call(1, 1, false), release(1, 0, 2))
	k.hears()
	checkTick(t, k.g, upBare(21))
}

// P18.4: all that is under way is sent again, in its order, as often as it is asked for; of the outbox nothing, as long as
// there is no room, and in its order, when there is.
func TestTickOfWhatIsUnderWay(t *testing.T) {
	for many := 1; many <= 25; many++ {
		g := crowd(t, many)
		for came := range many + 1 {
			for range 2 {
				checkTick(t, g, crowdSaid(max(came-1, 0), min(max(came-1, 0)+window, many), many)...)
			}
			g.Got(downBare(came))
			checkTick(t, g, crowdSaid(came, min(came+window, many), many)...)
		}
		checkTick(t, g, upBare(many))
	}
}

// P18.4: what came meanwhile is told with what is sent again.
func TestTickTellsWhatCame(t *testing.T) {
	k := met(t, 2)
	k.does(begin(), fine)
	k.asks(read(4, 0), askRead(4, 0))
	checkTick(t, k.g, up(1, 0, askRead(4, 0)))
	for n := 1; n <= 10; n++ {
		checkSaid(t, k.g, down(n, 0, done(5)), up(1, n, askRead(4, 0)))
		checkTick(t, k.g, up(1, n, askRead(4, 0)))
	}
	checkSaid(t, k.g, down(11, 1, done(5)), upBare(11))
	checkTick(t, k.g, upBare(11))
}
