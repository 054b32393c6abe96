package host_test

import (
	"testing"

	"cloakroom/api"
	"cloakroom/sector"
	"cloakroom/tape"
)

// P19.4: a Tick without a session sends nothing, a new host's and one whose sessions are over.
func TestTickWithoutSessions(t *testing.T) {
	w := newWorld(t)
	for range 5 {
		w.ticks()
	}
	w.meets(1, 1)
	for range patience + 1 {
		w.h.Tick()
	}
	for range 5 {
		w.ticks()
	}
}

// P19.4: each session is pumped, by rising clients: one packet with Seq 0 where nothing is under way, all bodies again where
// some are.
func TestTick(t *testing.T) {
	w := newWorld(t)
	b := w.meets(2, 4)
	w.ticks(b.told())
	a := w.meets(0, 4)
	w.ticks(a.told(), b.told())
	w.got(b.hears(), b.told())
	w.got(b.says(askRead(1, 1)), b.told(grant(1, all, 0)))
	w.ticks(a.told(), b.told())
	b.seq++
	w.got(b.packet(2, 0, bytesOf(commits(9, put(5, 0, 1)))), b.told(fail(9, api.ErrHost)))
	w.ticks(a.told(), b.told())
}

// P19.4: the same with all four, and with one, two and three bodies under way.
func TestTickOfAll(t *testing.T) {
	w := newWorld(t)
	of := w.meetAll()
	w.ticks(of[0].told(), of[1].told(), of[2].told(), of[3].told())
	crowd(w, of[1], 1)
	crowd(w, of[2], 2)
	crowd(w, of[3], 3)
	for range 2 {
		w.ticks(of[0].told(), of[1].told(), of[2].told(), of[3].told())
		for _, p := range of {
			w.unmoved(p.packet(0, 0, nil), p.told())
		}
	}
	for _, p := range of {
		w.unmoved(p.hears(), p.told())
	}
	w.ticks(of[0].told(), of[1].told(), of[2].told(), of[3].told())
}

// P19.4: a session that is silent for more Ticks than the patience ends: all that it had, waited for, and was called for is
// over, and a packet of it is answered with Boot 0.
func TestTickEnds(t *testing.T) {
	for _, s := range inStates(t) {
		if !s.isThere() {
			continue
		}
		for range patience {
			s.h.Tick()
			s.live(10, 11, 12, 13)
		}
		s.ticks()
		s.live(0, 0, 0, 0)
		for client := range clients {
			for page := range pages {
				s.has(client, page, 0, 0)
			}
			s.unmoved(hello(client, 10+client), refused(client, 10+client))
			s.unmoved(api.Packet{Client: client, Epoch: 10 + client, Boot: boot}, refused(client, 10+client))
		}
		s.unmoved(s.p.says(askRead(1, 1)), refused(1, 11))
		// Nobody is called, or waits, in what comes then.
		p := s.meets(2, 30)
		s.got(p.says(askWrite(2, 1)), p.told(grant(2, all, all)))
		x, _ := s.s.Page(1)
		s.got(p.says(askWrite(1, 3)), p.told(grant(1, all, all, x.Objs[:]...)))
	}
}

// P19.4: what one that ends had goes to the next one that waits for it, in that Tick.
func TestTickTellsOthers(t *testing.T) {
	w := filled(t, 3)
	of := w.meetAll()
	w.owns(of[1], 1)
	w.reads(of[1], 2)
	w.got(of[3].says(askRead(1, 2)), of[3].told(), of[1].told(call(1, 2, false)))
	w.got(of[0].says(askWrite(2, 0)), of[0].told(), of[1].told(call(2, 0, true)))
	for n := range patience + 1 {
		for _, p := range []*peer{of[0], of[2], of[3]} {
			w.got(p.hears(), p.told())
		}
		if n < patience {
			w.ticks(of[0].told(), of[1].told(), of[2].told(), of[3].told())
		}
	}
	w.ticks(of[0].told(grant(2, all, all, values(2, all)...)), of[2].told(), of[3].told(grant(1, all, 0, values(1, all)...)))
	w.live(10, 0, 12, 13)
	w.has(1, 1, 0, 0)
	w.has(1, 2, 0, 0)
	w.has(0, 2, all, all)
	w.has(3, 1, all, 0)
}

// P19.4: what one that ends waited for isn't waited for any more, and its calls count as answered: behind its new session's
// beginning it may ask for that page.
func TestTickEndsCalls(t *testing.T) {
	w := filled(t, 3)
	of := w.meetAll()
	a, b := of[0], of[1]
	w.reads(a, 1)
	w.got(b.says(askWrite(1, 1)), b.told(), a.told(call(1, 1, true)))
	silence(w, of, 0)
	w.live(0, 11, 12, 13)
	w.has(1, 1, all, all)
	b.told(grant(1, all, all, values(1, all)...))
	a = w.meets(0, 20)
	w.got(a.says(askRead(1, 2)), a.told(), b.told(call(1, 2, false)))
	w.got(b.says(release(1, 0, all)), b.told(), a.told(grant(1, all, 0, values(1, all)...)))
	// The one that waits ends: what is released goes to nobody.
	w.got(b.says(askWrite(1, 3)), b.told(), a.told(call(1, 3, true)))
	of[0] = a
	silence(w, of, 1)
	w.live(20, 0, 12, 13)
	w.got(a.says(release(1, 8, 0)), a.told())
	w.has(0, 1, 7, 0)
	w.has(1, 1, 0, 0)
}

// silence lets so many Ticks go by that those clients' sessions end, and no others'.
func silence(w *world, of []*peer, ends ...int) {
	w.t.Helper()
	for range patience + 1 {
		for _, p := range of {
			silent := false
			for _, client := range ends {
				silent = silent || p.client == client
			}
			if !silent {
				w.h.Got(p.packet(0, 0, nil))
			}
		}
		w.h.Tick()
	}
}

// quiet is silence up to the Tick in which they end, which is left to the test.
func quiet(w *world, of []*peer, ends ...int) {
	w.t.Helper()
	for range patience {
		w.h.Tick()
	}
	for _, p := range of {
		silent := false
		for _, client := range ends {
			silent = silent || p.client == client
		}
		if !silent {
			w.got(p.hears(), p.told())
		}
	}
}

// P19.4: several end in one Tick, one behind the other by rising clients: what the first one had is the second one's for that
// long, and what that one leaves for others is told.
func TestTickEndsSeveral(t *testing.T) {
	w := filled(t, 3)
	of := w.meetAll()
	w.owns(of[0], 1)
	w.got(of[1].says(askWrite(1, 3)), of[1].told(), of[0].told(call(1, 3, true)))
	w.got(of[2].says(askRead(1, 0)), of[2].told(), of[0].told(call(1, 0, false)))
	quiet(w, of, 0, 1)
	// When client 0 ends, client 1 owns object 3, so it isn't granted to client 2.
	w.ticks(of[2].told(grant(1, 7, 0, values(1, 7)...)), of[3].told())
	w.live(0, 0, 12, 13)
	w.has(1, 1, 0, 0)
	w.has(2, 1, 7, 0)

	w = filled(t, 3)
	of = w.meetAll()
	w.owns(of[3], 1)
	w.got(of[1].says(askWrite(1, 3)), of[1].told(), of[3].told(call(1, 3, true)))
	w.got(of[2].says(askRead(1, 0)), of[2].told(), of[3].told(call(1, 0, false)))
	quiet(w, of, 1, 3)
	// Client 1 ends first here: when client 3 does, nobody else waits.
	w.ticks(of[0].told(), of[2].told(grant(1, all, 0, values(1, all)...)))
	w.live(10, 0, 12, 0)
	w.has(2, 1, all, 0)

	w = filled(t, 3)
	of = w.meetAll()
	w.owns(of[0], 1)
	w.got(of[1].says(askWrite(1, 3)), of[1].told(), of[0].told(call(1, 3, true)))
	w.got(of[2].says(askWrite(1, 3)), of[2].told())
	w.got(of[3].says(askWrite(1, 3)), of[3].told())
	quiet(w, of, 0, 1, 2)
	// Each one has it for a moment, and client 3 in the end.
	w.ticks(of[3].told(grant(1, all, all, values(1, all)...)))
	w.live(0, 0, 0, 13)
	w.has(3, 1, all, all)
}

// P19.4: each session has its own silence.
func TestTickSilenceOfEach(t *testing.T) {
	w := newWorld(t)
	a := w.meets(3, 1)
	w.ticks(a.told())
	b := w.meets(0, 1)
	w.ticks(b.told(), a.told())
	w.got(b.hears(), b.told())
	w.ticks(b.told(), a.told())
	w.live(1, 0, 0, 1)
	w.ticks(b.told())
	w.live(1, 0, 0, 0)
	c := w.meets(3, 2)
	w.ticks(b.told(), c.told())
	w.ticks(c.told())
	w.live(0, 0, 0, 2)
	w.ticks(c.told())
	w.ticks()
	w.live(0, 0, 0, 0)
}

// P19.4: a new session of the same client isn't silent from the elder one on.
func TestTickSilenceOfANewSession(t *testing.T) {
	w := newWorld(t)
	w.meets(1, 1)
	for range patience {
		w.h.Tick()
	}
	w.meets(1, 2)
	for range patience {
		w.h.Tick()
		w.live(0, 2, 0, 0)
	}
	w.ticks()
}

// P19.4: neither a Sync nor a Tick tells the server that a client is there.
func TestSyncIsNoSign(t *testing.T) {
	w := newWorld(t)
	p := w.meets(1, 1)
	w.got(p.says(commits(1)), p.told())
	w.syncs(p.told(done(1)))
	for range patience {
		w.ticks(p.told())
		w.syncs()
	}
	w.ticks()
	w.live(0, 0, 0, 0)
}

// P19.4: a Sync with nothing to tell sends nothing, though something is under way; what is on the log is safe.
func TestSyncOfNothing(t *testing.T) {
	for _, s := range inStates(t) {
		if s.what == "committed" {
			continue
		}
		s.s.Commit(3, 1, 1, nil)
		s.logged(1, 0)
		s.syncs()
		s.logged(1, 1)
		s.syncs()
	}
}

// P19.4: commits are told in their order, in packets by rising clients, and once.
func TestSync(t *testing.T) {
	w := newWorld(t)
	of := w.meetAll()
	for _, p := range of {
		w.owns(p, p.client)
	}
	open := 0
	for n, client := range []int{3, 1, 3, 0, 1, 3} {
		p := of[client]
		w.got(p.says(commits(50-n, put(client, 1, complex(float64(n), 0)))), p.told())
		open++
		w.open(open)
	}
	w.logged(6, 0)
	w.syncs(of[0].told(done(47)), of[1].told(done(49), done(46)), of[3].told(done(50), done(48), done(45)))
	w.logged(6, 6)
	w.open(0)
	w.syncs()
	w.ticks(of[0].told(), of[1].told(), of[2].told(), of[3].told())
	w.got(of[3].says(commits(44)), of[3].told())
	w.syncs(of[3].told(done(44)))
}

// P19.4: those alone are told whose LSN isn't above what is safe, the others later.
func TestSyncOfWhatIsNotDurable(t *testing.T) {
	w := newWorld(t)
	a, b := w.meets(0, 1), w.meets(1, 1)
	w.owns(a, 0)
	w.owns(b, 1)
	var ends []int
	for n := 1; n <= 4; n++ {
		w.got(a.says(commits(n, put(0, 0, 1))), a.told())
		ends = append(ends, len(w.x.Bytes()))
	}
	w.got(b.says(commits(9, put(1, 0, 1))), b.told())
	// The tape loses all behind the second one.
	whole := w.x.Bytes()
	w.x.Cut(ends[1])
	w.syncs(a.told(done(1), done(2)))
	w.open(3)
	w.logged(5, 2)
	w.syncs()
	w.open(3)
	w.x.Append(whole[ends[1]:ends[2]])
	w.syncs(a.told(done(3)))
	w.open(2)
	w.x.Append(whole[ends[2]:])
	w.open(2)
	w.syncs(a.told(done(4)), b.told(done(9)))
	w.open(0)
}

// P19.4: what is safe already, since a page was written or a checkpoint made, is told by the next Sync, and not ahead of it.
func TestSyncOfWhatIsDurable(t *testing.T) {
	w := opened(t, tape.New(1000), sector.New(pages), 1, boot, patience)
	a := w.meets(0, 1)
	w.owns(a, 0)
	w.got(a.says(commits(1, put(0, 0, 1))), a.told())
	w.logged(1, 0)
	// The only frame is needed for another page.
	w.got(a.says(askRead(1, 1)), a.told(grant(1, all, 0)))
	w.logged(1, 1)
	w.open(1)
	w.ticks(a.told())
	w.got(a.says(commits(2, put(0, 0, 2))), a.told())
	if e := w.s.Checkpoint(); e != api.OK {
		t.Fatal(e)
	}
	w.logged(2, 2)
	w.open(2)
	w.got(a.hears(), a.told())
	w.syncs(a.told(done(1), done(2)))
	w.open(0)
}

// P19.4: of a client whose session is over, or another one by then, nothing is said, and it isn't told later.
func TestSyncOfASessionThatIsOver(t *testing.T) {
	for _, again := range []bool{false, true} {
		w := newWorld(t)
		a, b := w.meets(0, 5), w.meets(1, 5)
		w.owns(a, 0)
		w.owns(b, 1)
		w.got(a.says(commits(7, put(0, 0, 1))), a.told())
		w.got(b.says(commits(8, put(1, 0, 1))), b.told())
		w.got(a.says(commits(9, put(0, 0, 2))), a.told())
		if again {
			a = w.meets(0, 6)
		} else {
			silence(w, []*peer{a, b}, 0)
			w.live(0, 5, 0, 0)
		}
		w.open(3)
		w.syncs(b.told(done(8)))
		w.open(0)
		w.logged(3, 3)
		w.value(0, 0, 2)
		if !again {
			a = w.meets(0, 6)
		}
		w.syncs()
		w.got(a.hears(), a.told())
		// A commit of the new session with the same transaction's number is told, and that alone.
		w.owns(a, 0)
		w.got(a.says(commits(7, put(0, 0, 3))), a.told())
		w.syncs(a.told(done(7)))
	}
}

// P19.4: of commits of both sessions of a client those of the one that is there are told.
func TestSyncOfTwoSessions(t *testing.T) {
	w := newWorld(t)
	a := w.meets(2, 5)
	w.got(a.says(commits(1)), a.told())
	a = w.meets(2, 6)
	w.got(a.says(commits(2)), a.told())
	w.open(2)
	w.syncs(a.told(done(2)))
	w.open(0)
}

// sent are the packets of what a client was told, of which so many came and so many at most were said.
func sent(p *peer, list []api.Msg, came int) []api.Packet {
	q := *p
	q.came, q.under = p.came+came, nil
	return q.told(list[came:min(came+window, len(list))]...)
}

// PUMP: more than the window has room for, said at once by a Sync: the rest stays in the outbox in its order, and goes as
// there is room.
func TestMoreThanTheWindow(t *testing.T) {
	for _, many := range []int{7, 8, 9, 20} {
		for stride := 1; stride <= window; stride++ {
			w := newWorld(t)
			p, other := w.meets(2, 5), w.meets(0, 1)
			w.got(other.hears(), other.told())
			var list []api.Msg
			for n := 1; n <= many; n++ {
				w.got(p.says(commits(n)), p.told())
				list = append(list, done(n))
			}
			w.syncs(sent(p, list, 0))
			w.ticks(other.told(), sent(p, list, 0))
			w.syncs()
			for came := 0; came < many; {
				came = min(came+stride, many)
				k := p.packet(0, p.came+came, nil)
				w.got(k, sent(p, list, came))
				w.got(k, sent(p, list, came))
				w.got(hello(2, 5), sent(p, list, came))
			}
			w.got(p.says(askRead(1, 1)), []api.Packet{{Client: 2, Epoch: 5, Boot: boot, Seq: many + 1, Ack: p.seq, Server: true, Body: bytesOf(grant(1, all, 0))}})
		}
	}
}

// PUMP: one by one, by what the client itself says: what has no room waits behind what is under way.
func TestMoreThanTheWindowOneByOne(t *testing.T) {
	for many := range 20 {
		w := newWorld(t)
		p := w.meets(1, 11)
		crowd(w, p, many)
		var list []api.Msg
		for n := 1; n <= many; n++ {
			list = append(list, fail(100+n, api.ErrHost))
		}
		for came := range many + 1 {
			w.got(p.packet(0, came, nil), sent(&peer{client: 1, epoch: 11, seq: p.seq}, list, came))
			w.ticks(sent(&peer{client: 1, epoch: 11, seq: p.seq}, list, came))
		}
	}
}

// PUMP: what is said to others by a packet, or by a session's end, waits in their outbox, too, and they are pumped.
func TestMoreThanTheWindowOfOthers(t *testing.T) {
	w := newWorld(t)
	of := w.meetAll()
	p := of[1]
	w.owns(p, 1)
	p.hears()
	base := p.came
	crowd(w, p, window)
	w.got(of[0].says(askWrite(1, 3)), of[0].told(), p.told())
	w.got(of[2].says(askRead(1, 0)), of[2].told(), p.told())
	// What is in the outbox is no reason to pump it when nothing was said to it.
	w.got(of[3].says(askRead(4, 0)), of[3].told(grant(4, all, 0)))
	w.got(of[3].hears(), of[3].told())
	list := append([]api.Msg{}, p.under...)
	list = append(list, call(1, 3, true), call(1, 0, false))
	p.came = base
	w.ticks(of[0].told(), sent(p, list, 0), of[2].told(), of[3].told())
	w.got(p.packet(0, base+1, nil), sent(p, list, 1))
	w.got(p.packet(0, base+2, nil), sent(p, list, 2))
	w.got(p.packet(0, base+10, nil), sent(p, list, 10))
}

// PUMP: a session's end in a Tick says something to one whose window is full.
func TestMoreThanTheWindowInATick(t *testing.T) {
	w := newWorld(t)
	of := w.meetAll()
	w.owns(of[0], 1)
	p := of[1]
	w.got(p.says(askRead(1, 2)), p.told(), of[0].told(call(1, 2, false)))
	crowd(w, p, window)
	list := append(append([]api.Msg{}, p.under...), grant(1, all, 0))
	for range patience {
		w.h.Tick()
		w.h.Got(p.packet(0, 0, nil))
	}
	w.ticks(sent(&peer{client: 1, epoch: 11, seq: p.seq}, list, 0))
	w.live(0, 11, 0, 0)
	w.has(1, 1, all, 0)
	for came := 1; came <= window+1; came++ {
		w.got(p.packet(0, came, nil), sent(&peer{client: 1, epoch: 11, seq: p.seq}, list, came))
	}
}

// A session ends with what is in its outbox and under way: the next one begins with nothing.
func TestEndWithOutbox(t *testing.T) {
	for many := range 20 {
		w := newWorld(t)
		p := w.meets(1, 11)
		crowd(w, p, many)
		p = w.meets(1, 12)
		w.ticks(p.told())
		w.got(p.says(askRead(2, 2)), p.told(grant(2, all, 0)))
		for range patience + 1 {
			w.h.Tick()
		}
		p = w.meets(1, 13)
		w.got(p.hears(), p.told())
	}
}

// PUMP: ErrSeq is its end, too: what has no number any more stays in the outbox, though there is room in the window, till the
// session ends.
func TestLastNumbers(t *testing.T) {
	t.Parallel()
	w := newWorld(t)
	of := w.meetAll()
	p := of[1]
	w.owns(p, 1)
	for _, other := range []*peer{of[0], of[2], of[3]} {
		w.got(other.says(askWrite(1, other.client)), other.told(), p.told(call(1, other.client, true)))
	}
	w.got(p.hears(), p.told())
	k := p.packet(0, 0, bytesOf(commits(0)))
	for p.came < maxNum-2 {
		p.seq++
		k.Seq, k.Ack = p.seq, p.came
		p.came++
		if list := w.h.Got(k); len(list) != 1 || list[0].Seq != p.came || list[0].Ack != p.seq {
			t.Fatalf("Got %s%s", packetTold(k), packetsTold(list))
		}
	}
	w.got(p.hears(), p.told())
	// The last two numbers.
	p.seq++
	w.got(p.packet(p.seq, p.came, bytesOf(commits(0))), p.told(fail(0, api.ErrWal)))
	w.got(of[0].says(release(5, 0, 0)), of[0].told())
	p.seq++
	w.got(p.packet(p.seq, p.came, bytesOf(commits(0))), p.told(fail(0, api.ErrWal)))
	// No other one has a number: neither what is said to it by its own packet nor by another one's, nor by a Sync.
	p.seq++
	w.got(p.packet(p.seq, p.came, bytesOf(commits(5, put(1, 1, 7)))), p.told())
	w.syncs(p.told())
	w.got(p.packet(0, p.came+1, nil), p.told()[1:])
	w.got(p.hears(), p.told())
	w.syncs()
	w.ticks(of[0].told(), p.told(), of[2].told(), of[3].told())
	w.got(hello(1, 11), p.told())
	w.open(0)
	// Its seq has three numbers less than the server's: what it says is done still.
	w.got(p.says(release(1, all, all)), p.told(), of[0].told(grant(1, 3, 1, 0, 7)), of[2].told(grant(1, 6, 4, 0, 7)), of[3].told(grant(1, 10, 8, 0, 7)))
	p = w.meets(1, 20)
	w.got(p.says(commits(0)), p.told(fail(0, api.ErrWal)))
}
