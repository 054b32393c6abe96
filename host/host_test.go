package host_test

import (
	"fmt"
	"math"
	"strings"
	"testing"

	"cloakroom/api"
	"cloakroom/host"
	"cloakroom/msg"
	"cloakroom/sector"
	"cloakroom/store"
	"cloakroom/tape"
)

const (
	maxNum   = 16777215
	window   = 8
	pages    = 6
	objs     = 4
	clients  = 4
	all      = 15
	patience = 3
	// The server's start of most tests.
	boot = 3
	// What a patience is at most.
	most = 100
)

func askRead(page, obj int) api.Msg {
	return api.Msg{Kind: api.AskRead, Page: page, Obj: obj}
}

func askWrite(page, obj int) api.Msg {
	return api.Msg{Kind: api.AskWrite, Page: page, Obj: obj}
}

func commits(txn int, puts ...api.Put) api.Msg {
	return api.Msg{Kind: api.Commit, Txn: txn, Puts: puts}
}

func release(page, copies, own int) api.Msg {
	return api.Msg{Kind: api.Release, Page: page, Copy: copies, Own: own}
}

func busy(page, obj int, write bool) api.Msg {
	return api.Msg{Kind: api.Busy, Page: page, Obj: obj, Write: write}
}

func grant(page, copies, own int, values ...complex128) api.Msg {
	m := api.Msg{Kind: api.Grant, Page: page, Copy: copies, Own: own}
	copy(m.Values[:], values)
	return m
}

func call(page, obj int, write bool) api.Msg {
	return api.Msg{Kind: api.Call, Page: page, Obj: obj, Write: write}
}

func done(txn int) api.Msg {
	return api.Msg{Kind: api.Done, Txn: txn}
}

func fail(txn int, e api.Errno) api.Msg {
	return api.Msg{Kind: api.Fail, Txn: txn, Copy: int(e)}
}

func put(page, obj int, v complex128) api.Put {
	return api.Put{Page: page, Obj: obj, Value: v}
}

// bytesOf are those of a message that can be.
func bytesOf(m api.Msg) []byte {
	b, e := msg.Bytes(m)
	if e != api.OK {
		panic("the test's own message isn't right")
	}
	return b
}

// hello is what a client says that asks for a session.
func hello(client, epoch int) api.Packet {
	return api.Packet{Client: client, Epoch: epoch}
}

// bare is what the server says in a new session.
func bare(client, epoch int) []api.Packet {
	return []api.Packet{{Client: client, Epoch: epoch, Boot: boot, Server: true}}
}

// refused is what it says where that session isn't there.
func refused(client, epoch int) []api.Packet {
	return []api.Packet{{Client: client, Epoch: epoch, Server: true}}
}

func packetTold(p api.Packet) string {
	what := fmt.Sprintf("%x", p.Body)
	if m, e := msg.Read(p.Body); e == api.OK {
		what = fmt.Sprintf("%+v", m)
	}
	return fmt.Sprintf("client %d epoch %d boot %d seq %d ack %d server %t body %s\n", p.Client, p.Epoch, p.Boot, p.Seq, p.Ack, p.Server, what)
}

func packetsTold(list []api.Packet) string {
	var b strings.Builder
	for _, p := range list {
		b.WriteString(packetTold(p))
	}
	return b.String()
}

// anyHost is a host, or a plain one.
type anyHost interface {
	Got(p api.Packet) []api.Packet
	Tick() []api.Packet
	Sync() []api.Packet
	Live(client int) int
	Copies(client, page int) int
	Own(client, page int) int
	Open() int
}

// side is a host and the devices of its store.
type side struct {
	x *tape.Tape
	d *sector.Drive
	s *store.Store
	h anyHost
}

// shown is all that is told of a host and of its devices by calls that change nothing.
type shown struct {
	live          [clients]int
	copies, own   [clients][pages]int
	open          int
	last, durable int
	safe          int
	bytes         string
	sectors       [pages]string
}

func show(w *side) shown {
	s := shown{open: w.h.Open(), last: w.s.Last(), durable: w.s.Durable(), safe: w.x.Safe(), bytes: string(w.x.Bytes())}
	for client := range clients {
		s.live[client] = w.h.Live(client)
		for page := range pages {
			s.copies[client][page], s.own[client][page] = w.h.Copies(client, page), w.h.Own(client, page)
		}
	}
	for k := range s.sectors {
		b, _ := w.d.Read(k)
		s.sectors[k] = string(b)
	}
	return s
}

// world is a host with its clients as the tests play them.
type world struct {
	side
	t *testing.T
}

func opened(t *testing.T, x *tape.Tape, d *sector.Drive, frames, boot, patience int) *world {
	t.Helper()
	s, e := store.Open(x, d, frames)
	if e != api.OK {
		t.Fatalf("Open: %d", e)
	}
	return &world{side{x: x, d: d, s: s, h: host.New(boot, patience, s)}, t}
}

func newWorld(t *testing.T) *world {
	t.Helper()
	return opened(t, tape.New(20000), sector.New(pages), pages, boot, patience)
}

// check holds packets against those that are to be sent, a list of each client.
func (w *world) check(what string, got []api.Packet, want [][]api.Packet) {
	w.t.Helper()
	var list []api.Packet
	for _, of := range want {
		list = append(list, of...)
	}
	if packetsTold(got) != packetsTold(list) {
		w.t.Errorf("%s:\n%snot\n%s", what, packetsTold(got), packetsTold(list))
	}
}

// got hands in a packet by which these are sent.
func (w *world) got(p api.Packet, want ...[]api.Packet) {
	w.t.Helper()
	w.check("Got "+packetTold(p), w.h.Got(p), want)
}

func (w *world) ticks(want ...[]api.Packet) {
	w.t.Helper()
	w.check("Tick", w.h.Tick(), want)
}

func (w *world) syncs(want ...[]api.Packet) {
	w.t.Helper()
	w.check("Sync", w.h.Sync(), want)
}

// unmoved hands in a packet by which these are sent, and nothing is changed.
func (w *world) unmoved(p api.Packet, want ...[]api.Packet) {
	w.t.Helper()
	before := show(&w.side)
	w.got(p, want...)
	if show(&w.side) != before {
		w.t.Errorf("Got %shas changed something", packetTold(p))
	}
}

func (w *world) live(want ...int) {
	w.t.Helper()
	for client, epoch := range want {
		if got := w.h.Live(client); got != epoch {
			w.t.Errorf("Live of %d is %d, not %d", client, got, epoch)
		}
	}
}

func (w *world) has(client, page, copies, own int) {
	w.t.Helper()
	if c, o := w.h.Copies(client, page), w.h.Own(client, page); c != copies || o != own {
		w.t.Errorf("client %d has %d of page %d and owns %d, not %d and %d", client, c, page, o, copies, own)
	}
}

func (w *world) open(want int) {
	w.t.Helper()
	if got := w.h.Open(); got != want {
		w.t.Errorf("Open is %d, not %d", got, want)
	}
}

// logged looks at how many commits the store has, and how many of them are safe.
func (w *world) logged(last, durable int) {
	w.t.Helper()
	if w.s.Last() != last || w.s.Durable() != durable {
		w.t.Errorf("the last commit is %d, and %d is safe; not %d and %d", w.s.Last(), w.s.Durable(), last, durable)
	}
}

// value looks at an object of the store.
func (w *world) value(page, obj int, want complex128) {
	w.t.Helper()
	if x, e := w.s.Page(page); e != api.OK || x.Objs[obj] != want {
		w.t.Errorf("page %d is %+v, %d: object %d isn't %v", page, x, e, obj, want)
	}
}

// peer is a client in a session: how much it has said, how much of the server's is known to have come, and what isn't.
type peer struct {
	client, epoch, seq, came int
	under                    []api.Msg
}

// meets begins a session of a client, of which nobody else hears.
func (w *world) meets(client, epoch int) *peer {
	w.t.Helper()
	w.got(hello(client, epoch), bare(client, epoch))
	return &peer{client: client, epoch: epoch}
}

// meetAll begins sessions of all clients, in the epochs 10 to 13.
func (w *world) meetAll() []*peer {
	w.t.Helper()
	var list []*peer
	for client := range clients {
		list = append(list, w.meets(client, 10+client))
	}
	return list
}

func (p *peer) packet(seq, ack int, body []byte) api.Packet {
	return api.Packet{Client: p.client, Epoch: p.epoch, Boot: boot, Seq: seq, Ack: ack, Body: body}
}

// says is the client's next packet, by which all that the server said is known to have come.
func (p *peer) says(m api.Msg) api.Packet {
	p.hears()
	p.seq++
	return p.packet(p.seq, p.came, bytesOf(m))
}

// hears is a packet that says no more than that all came.
func (p *peer) hears() api.Packet {
	p.came += len(p.under)
	p.under = nil
	return p.packet(0, p.came, nil)
}

// told are the packets that the server sends the client, when it says these now: all that are under way, a bare one if none
// is.
func (p *peer) told(list ...api.Msg) []api.Packet {
	p.under = append(p.under, list...)
	if len(p.under) == 0 {
		return []api.Packet{{Client: p.client, Epoch: p.epoch, Boot: boot, Ack: p.seq, Server: true}}
	}
	var sent []api.Packet
	for n, m := range p.under {
		sent = append(sent, api.Packet{Client: p.client, Epoch: p.epoch, Boot: boot, Seq: p.came + 1 + n, Ack: p.seq, Server: true, Body: bytesOf(m)})
	}
	return sent
}

// owns gives a client all of a page that nobody has anything of.
func (w *world) owns(p *peer, page int) {
	w.t.Helper()
	x, _ := w.s.Page(page)
	w.got(p.says(askWrite(page, 0)), p.told(grant(page, all, all, x.Objs[:]...)))
	w.has(p.client, page, all, all)
}

// reads gives a client copies of all of a page of which nobody owns anything.
func (w *world) reads(p *peer, page int) {
	w.t.Helper()
	x, _ := w.s.Page(page)
	w.got(p.says(askRead(page, 0)), p.told(grant(page, all, 0, x.Objs[:]...)))
	w.has(p.client, page, all, 0)
}

// wrong are numbers that are no client, page or the like, where least is the first one above the greatest: those about the
// edges of 64 bits, and such as have the lowest bits of those that can be.
func wrong(least int) []int {
	return []int{math.MinInt, math.MinInt + 1, math.MinInt + 3, math.MinInt32, -1<<32 + 1, -256, -16, -2, -1, least, least + 1, 2*least + 1, 1<<24 + 1, 1<<24 + 256,
		1 << 31, 1 << 32, 1<<32 + 1, 1<<32 + 3, 1<<62 + 1, math.MaxInt - 1, math.MaxInt}
}

// The chapter's example: a packet of a session that isn't there any more is answered with Boot 0.
func TestExample(t *testing.T) {
	w := newWorld(t)
	a := w.meets(2, 7)
	w.got(a.says(askRead(1, 1)), a.told(grant(1, all, 0)))
	b := w.meets(2, 8)
	w.unmoved(a.says(askRead(1, 2)), refused(2, 7))
	w.unmoved(a.hears(), refused(2, 7))
	w.got(b.hears(), b.told())
	for range patience + 1 {
		w.h.Tick()
	}
	w.live(0, 0, 0, 0)
	w.unmoved(b.says(askRead(1, 2)), refused(2, 8))
	w.unmoved(b.hears(), refused(2, 8))
}

// The section Errors and the limits.
func TestNumbers(t *testing.T) {
	if api.ErrHost != 191 || api.MaxPatience != most || api.MaxClients != clients || api.MaxWindow != window || api.MaxNum != maxNum {
		t.Error(api.ErrHost, api.MaxPatience, api.MaxClients, api.MaxWindow, api.MaxNum)
	}
}

// P19.1: a new host has no sessions, nobody has anything, and no commit is to be told; a new store isn't touched.
func TestNew(t *testing.T) {
	for _, boot := range []int{1, 2, 256, maxNum - 1, maxNum} {
		x, d := tape.New(1000), sector.New(pages)
		w := opened(t, x, d, 2, boot, patience)
		w.live(0, 0, 0, 0)
		w.open(0)
		w.logged(0, 0)
		for client := range clients {
			for page := range pages {
				w.has(client, page, 0, 0)
			}
		}
		w.ticks()
		w.syncs()
		for client := range clients {
			w.got(hello(client, 1), []api.Packet{{Client: client, Epoch: 1, Boot: boot, Server: true}})
		}
		w.live(1, 1, 1, 1)
	}
}

// P19.1: a new host over a store that has commits: they aren't to be told any more.
func TestNewOverCommits(t *testing.T) {
	w := newWorld(t)
	a := w.meets(1, 1)
	w.owns(a, 2)
	w.got(a.says(commits(1, put(2, 1, 7))), a.told())
	w.open(1)
	w.h = host.New(boot, patience, w.s)
	w.open(0)
	w.live(0, 0, 0, 0)
	w.has(1, 2, 0, 0)
	w.syncs()
	w.logged(1, 1)
	b := w.meets(1, 1)
	w.got(b.says(askRead(2, 1)), b.told(grant(2, all, 0, 0, 7)))
}

// lives tells for how many Ticks a session that is silent is there.
func lives(t *testing.T, patience int) int {
	t.Helper()
	w := opened(t, tape.New(0), sector.New(pages), 1, boot, patience)
	p := w.meets(2, 5)
	for n := range 2 * most {
		if w.h.Live(2) != 5 {
			w.unmoved(p.hears(), refused(2, 5))
			return n - 1
		}
		if n%2 == 0 {
			w.unmoved(hello(2, 5), p.told())
		}
		w.h.Tick()
	}
	return 2 * most
}

// P19.1: the patience is at least 1, and at most 100.
func TestPatience(t *testing.T) {
	for _, patience := range append(wrong(most+1), 0, 1, 2, 3, 50, most-1, most, most+1, 2*most) {
		want := min(max(patience, 1), most)
		if got := lives(t, patience); got != want {
			t.Errorf("with a patience of %d a session is there for %d Ticks, not %d", patience, got, want)
		}
	}
}

// P19.1: clients and pages that there aren't have no session, no copies, and own nothing.
func TestNoSuchClientsAndPages(t *testing.T) {
	w := newWorld(t)
	for _, p := range w.meetAll() {
		w.owns(p, p.client)
	}
	for _, client := range wrong(clients) {
		if got := w.h.Live(client); got != 0 {
			t.Errorf("Live of %d is %d", client, got)
		}
		for _, page := range append(wrong(pages), 0, 1, 2, 3, 4, 5) {
			w.has(client, page, 0, 0)
		}
	}
	for client := range clients {
		for _, page := range wrong(pages) {
			w.has(client, page, 0, 0)
		}
		for page := range pages {
			if page == client {
				w.has(client, page, all, all)
			} else {
				w.has(client, page, 0, 0)
			}
		}
	}
}

// P19.1: Live goes with the sessions, Copies and Own with what the desk has granted and taken back, Open with the commits.
func TestWhatIsTold(t *testing.T) {
	w := newWorld(t)
	a := w.meets(0, 9)
	w.live(9, 0, 0, 0)
	b := w.meets(3, 1)
	w.live(9, 0, 0, 1)
	w.got(a.says(askWrite(4, 3)), a.told(grant(4, all, all)))
	w.has(0, 4, all, all)
	w.got(a.says(release(4, 3, 4)), a.told())
	w.has(0, 4, 12, 8)
	w.got(b.says(askRead(4, 1)), b.told(grant(4, 7, 0)))
	w.has(3, 4, 7, 0)
	for n := 1; n <= 20; n++ {
		w.got(a.says(commits(n, put(4, 3, complex(float64(n), 0)))), a.told())
		w.open(n)
	}
	var list []api.Msg
	for n := 1; n <= window; n++ {
		list = append(list, done(n))
	}
	w.syncs(a.told(list...))
	w.open(0)
	w.meets(0, 10)
	w.live(10, 0, 0, 1)
	w.has(0, 4, 0, 0)
	w.has(3, 4, 7, 0)
}
