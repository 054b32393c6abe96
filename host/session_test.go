package host_test

import (
	"slices"
	"testing"

	"cloakroom/api"
	"cloakroom/guest"
	"cloakroom/host"
	"cloakroom/sector"
	"cloakroom/store"
	"cloakroom/tape"
)

// Whole transactions of two clients by packets: the first one writes and commits, is called, gives way, and the other one
// reads what it wrote.
func TestTransactions(t *testing.T) {
	w := newWorld(t)
	a, b := w.meets(0, 1), w.meets(3, 7)
	w.got(a.says(askWrite(1, 2)), a.told(grant(1, all, all)))
	w.got(a.says(commits(4, put(1, 2, 9))), a.told())
	w.got(b.says(askRead(1, 2)), b.told(), a.told(call(1, 2, false)))
	w.got(a.says(busy(1, 2, false)), a.told())
	w.syncs(a.told(done(4)))
	w.got(a.says(release(1, 0, all)), a.told(), b.told(grant(1, all, 0, 0, 0, 9)))
	w.got(b.says(askWrite(1, 2)), b.told(), a.told(call(1, 2, true)))
	w.got(a.says(release(1, 4, 4)), a.told(), b.told(grant(1, all, 4, 0, 0, 9)))
	w.got(b.says(commits(1, put(1, 2, 10))), b.told())
	w.syncs(b.told(done(1)))
	w.got(b.hears(), b.told())
	w.got(a.hears(), a.told())
	w.value(1, 2, 10)
	w.logged(2, 2)
	w.open(0)
	w.ticks(a.told(), b.told())
}

// The same with packets that are lost, come twice, and come late.
func TestTransactionsOnABadWay(t *testing.T) {
	w := newWorld(t)
	a, b := w.meets(0, 1), w.meets(3, 7)
	ask := a.says(askWrite(1, 2))
	w.got(ask, a.told(grant(1, all, all)))
	w.got(ask, a.told())
	// The Grant is lost, and said again.
	w.ticks(a.told(), b.told())
	commit := a.says(commits(4, put(1, 2, 9)))
	late := a.packet(3, 1, bytesOf(busy(1, 2, false)))
	// The second one overtakes the first one: nothing is done.
	a.came, a.under, a.seq = 1, nil, 1
	w.unmoved(late, a.told())
	a.seq++
	w.got(commit, a.told())
	w.unmoved(commit, a.told())
	w.got(b.says(askRead(1, 2)), b.told(), a.told(call(1, 2, false)))
	a.seq++
	w.got(late, a.told())
	w.unmoved(late, a.told())
	w.unmoved(ask, a.told())
	w.syncs(a.told(done(4)))
	w.unmoved(commit, a.told())
	w.got(a.says(release(1, 0, all)), a.told(), b.told(grant(1, all, 0, 0, 0, 9)))
	w.unmoved(hello(0, 1), a.told())
	w.logged(1, 1)
	w.value(1, 2, 9)
}

// P19.5: what is told Done is there behind a crash that keeps nothing, and a new host over the devices tells it to whoever
// asks; what isn't told may be gone.
func TestDoneIsDurable(t *testing.T) {
	for synced := range 6 {
		w := newWorld(t)
		a := w.meets(0, 1)
		w.owns(a, 1)
		for n := 1; n <= 5; n++ {
			w.got(a.says(commits(n, put(1, 2, complex(float64(n), 0)))), a.told())
			if n == synced {
				var list []api.Msg
				for k := 1; k <= n; k++ {
					list = append(list, done(k))
				}
				w.syncs(a.told(list...))
			}
		}
		w.open(5 - synced)
		w.x.Crash(0)
		w.d.Crash(0)
		again := opened(t, w.x, w.d, 2, boot, patience)
		again.open(0)
		again.live(0, 0, 0, 0)
		again.logged(synced, synced)
		b := again.meets(1, 1)
		again.got(b.says(askRead(1, 2)), b.told(grant(1, all, 0, 0, 0, complex(float64(synced), 0))))
	}
}

// A new start of the server knows of no sessions: their packets are answered with Boot 0, and a new one begins.
func TestNextBoot(t *testing.T) {
	w := newWorld(t)
	a := w.meets(0, 5)
	w.owns(a, 1)
	w.h = host.New(boot+1, patience, w.s)
	w.unmoved(a.says(askRead(1, 1)), refused(0, 5))
	w.unmoved(a.hears(), refused(0, 5))
	w.got(hello(0, 5), []api.Packet{{Epoch: 5, Boot: boot + 1, Server: true}})
	// The elder start's packets of the same epoch aren't this one's.
	w.unmoved(a.says(askRead(1, 1)), refused(0, 5))
	w.live(5, 0, 0, 0)
	w.has(0, 1, 0, 0)
}

// deal is a transaction as its application saw it.
type deal struct {
	client, epoch, txn int
	reads, writes      map[[2]int]complex128
	state              int
}

// town is a host and guests of all clients with a bad way between them, and what their applications saw.
type town struct {
	*world
	n       noise
	boot    int
	guests  [clients]*guest.Guest
	way     []api.Packet
	deals   []*deal
	of      [clients]*deal // the open one
	asked   [clients]api.Op
	written int
	// How often each error ended a transaction, one was lost, and the server fell.
	failed         map[api.Errno]int
	losses, starts int
}

func newTown(t *testing.T, seed int) *town {
	t.Helper()
	w := &town{world: opened(t, tape.New(20000), sector.New(pages), 1+seed%pages, 1, 2+seed%30), n: noise(1 + 977*seed), boot: 1, failed: map[api.Errno]int{}}
	for client := range clients {
		w.guests[client] = guest.New(client, 1, 1+seed%3)
	}
	return w
}

// step is one thing that happens.
func (w *town) step() {
	client := w.n.below(clients)
	switch at := w.n.below(1000); {
	case at < 330:
		w.ask(client)
	case at < 400:
		w.send(w.guests[client].Tick())
	case at < 425:
		w.send(w.h.Tick())
		w.checkCopies()
	case at < 465:
		w.send(w.h.Sync())
	case at < 466:
		w.fall()
	case at < 468:
		// A client falls: what it had open is lost.
		w.over(client, api.DealLost)
		w.guests[client] = guest.New(client, w.guests[client].Epoch()+1, 2)
	default:
		w.deliver()
	}
}

// send puts packets on the way, which isn't to hold ever more.
func (w *town) send(list []api.Packet) {
	w.way = append(w.way, list...)
	if len(w.way) > 60 {
		w.way = w.way[20:]
	}
}

// deliver brings any packet, loses it, or brings it and leaves it for another time.
func (w *town) deliver() {
	if len(w.way) == 0 {
		return
	}
	at := w.n.below(min(len(w.way), 12))
	p := w.way[at]
	if w.n.below(12) > 0 {
		w.way = slices.Delete(w.way, at, at+1)
	}
	switch {
	case w.n.below(12) == 0:
	case p.Server:
		list, x, ok := w.guests[p.Client].Got(p)
		w.send(list)
		if ok {
			w.answered(p.Client, x)
		}
		w.look(p.Client)
	default:
		w.send(w.h.Got(p))
		w.checkCopies()
	}
}

// ask has an application ask its guest for something.
func (w *town) ask(client int) {
	g := w.guests[client]
	if g.Agent().Waits() {
		return
	}
	o := api.Op{Kind: api.OpRead, Page: w.n.below(3), Obj: w.n.below(objs)}
	switch at := w.n.below(20); {
	case !g.Agent().Open():
		o = api.Op{Kind: api.OpBegin}
	case at < 7:
		w.written++
		o.Kind, o.Value = api.OpWrite, complex(float64(w.written), float64(client))
	case at < 11:
		o = api.Op{Kind: api.OpCommit}
	case at < 12:
		o = api.Op{Kind: api.OpAbort}
	}
	list, x := g.Do(o)
	w.send(list)
	w.asked[client] = o
	switch {
	case x.Waits, x.Err == api.ErrLost, x.Err == api.ErrLate:
	case x.Err == api.OK && o.Kind == api.OpBegin:
		w.of[client] = &deal{client: client, epoch: g.Epoch(), txn: g.Agent().Txn(), reads: map[[2]int]complex128{}, writes: map[[2]int]complex128{}}
		w.deals = append(w.deals, w.of[client])
	default:
		w.answered(client, x)
	}
	w.look(client)
}

// answered is what was asked, which is done or has failed.
func (w *town) answered(client int, x api.Answer) {
	w.t.Helper()
	o, d := w.asked[client], w.of[client]
	if d == nil {
		w.t.Fatalf("client %d has no transaction, and is answered %+v to %+v", client, x, o)
	}
	place := [2]int{o.Page, o.Obj}
	switch {
	case x.Err == api.ErrLost:
		w.over(client, api.DealLost)
	case x.Err == api.ErrRoom:
		// The transaction goes on without that page.
	case x.Err != api.OK:
		w.over(client, api.DealFailed)
		w.failed[x.Err]++
	case o.Kind == api.OpRead:
		if v, ok := d.writes[place]; ok && v != x.Value {
			w.t.Fatalf("client %d reads %v, and wrote %v", client, x.Value, v)
		} else if v, read := d.reads[place]; !ok && read && v != x.Value {
			w.t.Fatalf("client %d reads %v, and read %v", client, x.Value, v)
		} else if !ok {
			d.reads[place] = x.Value
		}
	case o.Kind == api.OpWrite:
		d.writes[place] = o.Value
	case o.Kind == api.OpCommit:
		w.over(client, api.DealDone)
		w.checkDone(d)
	case o.Kind == api.OpAbort:
		w.over(client, api.DealFailed)
	}
}

// look sees to a transaction that was lost while nothing was asked.
func (w *town) look(client int) {
	if w.of[client] != nil && !w.guests[client].Agent().Open() {
		w.over(client, api.DealLost)
	}
}

func (w *town) over(client, state int) {
	if w.of[client] == nil {
		return
	}
	if state == api.DealLost {
		w.losses++
	}
	w.of[client].state = state
	w.of[client] = nil
}

// checkDone is P19.5: what is told Done is Durable.
func (w *town) checkDone(d *deal) {
	w.t.Helper()
	for _, b := range w.s.Commits() {
		if b.Client == d.client && b.Epoch == d.epoch && b.Txn == d.txn {
			if b.LSN > w.s.Durable() {
				w.t.Fatalf("%+v is told, and isn't safe", b)
			}
			return
		}
	}
	w.t.Fatalf("%+v is told, and isn't on the log", d)
}

// checkCopies is P19.5: who has no session has no copies; and what one owns nobody else has.
func (w *town) checkCopies() {
	w.t.Helper()
	for page := range pages {
		for client := range clients {
			copies, own := w.h.Copies(client, page), w.h.Own(client, page)
			if w.h.Live(client) == 0 && copies|own > 0 {
				w.t.Fatalf("client %d has no session, and has %d and owns %d of page %d", client, copies, own, page)
			}
			for other := range client {
				if w.h.Copies(other, page)&own|w.h.Own(other, page)&copies > 0 {
					w.t.Fatalf("%d and %d have the same of page %d", client, other, page)
				}
			}
		}
	}
}

// fall is a crash of the server, and its next start.
func (w *town) fall() {
	w.x.Crash(w.n.below(3) * w.n.below(80))
	w.d.Crash(w.n.below(64))
	s, e := store.Open(w.x, w.d, 1+w.n.below(pages))
	if e != api.OK {
		w.t.Fatal(e)
	}
	w.boot++
	w.starts++
	w.s, w.h = s, host.New(w.boot, 2+w.n.below(30), s)
}

// checkSerial is that the log's order is a serial one: each transaction on it read what those ahead of it had written last, and
// wrote what the log has; one that was told is on it, and one that failed isn't.
func (w *town) checkSerial() int {
	w.t.Helper()
	found := map[*deal]int{}
	last := map[[2]int]complex128{}
	for _, b := range w.s.Commits() {
		at := slices.IndexFunc(w.deals, func(d *deal) bool { return d.client == b.Client && d.epoch == b.Epoch && d.txn == b.Txn })
		if at < 0 {
			w.t.Fatalf("nobody knows of %+v", b)
		}
		d := w.deals[at]
		found[d]++
		if found[d] > 1 {
			w.t.Fatalf("%+v is on the log twice", b)
		}
		for place, v := range d.reads {
			if last[place] != v {
				w.t.Fatalf("%+v read %v at %v, and %v was written last", b, v, place, last[place])
			}
		}
		if len(b.Puts) != len(d.writes) {
			w.t.Fatalf("%+v is on the log, not %v", b, d.writes)
		}
		for _, p := range b.Puts {
			place := [2]int{p.Page, p.Obj}
			if d.writes[place] != p.Value {
				w.t.Fatalf("%+v is on the log, not %v", b, d.writes)
			}
			last[place] = p.Value
		}
	}
	many := 0
	for _, d := range w.deals {
		if d.state == api.DealDone {
			many++
		}
		if d.state == api.DealDone && found[d] == 0 || d.state == api.DealFailed && found[d] > 0 {
			w.t.Fatalf("state %d, and %d times on the log: %+v", d.state, found[d], d)
		}
	}
	for place, v := range last {
		w.value(place[0], place[1], v)
	}
	return many
}

// Whole transactions of four clients, with a way that loses, doubles and turns packets, clients that fall and a server that
// falls: the log's order is a serial one, and what was told is on it.
func TestBadWay(t *testing.T) {
	var many, losses, starts int
	failed := map[api.Errno]int{}
	for seed := range 100 {
		w := newTown(t, seed)
		if seed%6 == 0 {
			w.x.Limit(700)
		}
		for range 10000 {
			w.step()
		}
		many += w.checkSerial()
		losses, starts = losses+w.losses, starts+w.starts
		for e, often := range w.failed {
			failed[e] += often
		}
		w.fall()
		w.checkSerial()
	}
	if len(failed) != 2 || many < 3000 || failed[api.ErrDeadlock] < 100 || failed[api.ErrFull] < 50 || losses < 500 || starts < 200 {
		t.Errorf("%d were done, %v failed, %d were lost, and the server fell %d times", many, failed, losses, starts)
	}
}
