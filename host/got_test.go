package host_test

import (
	"bytes"
	"testing"

	"cloakroom/api"
)

// state is a world in which the tests look at client 1; where its session is over, it has the peer that it was.
type state struct {
	*world
	what string
	p    *peer
}

// inStates are worlds in all states that there are.
func inStates(t *testing.T) []state {
	t.Helper()
	list := []state{{newWorld(t), "none", &peer{client: 1, epoch: 11}}}
	for _, what := range []string{"met", "granted", "called", "waits", "committed", "crowded", "over", "another"} {
		w := newWorld(t)
		of := w.meetAll()
		p := of[1]
		if what != "met" {
			w.owns(p, 1)
			w.reads(of[0], 2)
		}
		switch what {
		case "called":
			w.got(of[2].says(askRead(1, 3)), of[2].told(), p.told(call(1, 3, false)))
		case "waits":
			w.got(p.says(askWrite(2, 1)), p.told(), of[0].told(call(2, 1, true)))
		case "committed":
			w.got(p.says(commits(4, put(1, 2, 8))), p.told())
		case "crowded":
			crowd(w, p, 12)
		case "over":
			for range patience + 1 {
				for _, other := range []*peer{of[0], of[2], of[3]} {
					w.h.Got(other.hears())
				}
				w.h.Tick()
			}
			w.live(10, 0, 12, 13)
		case "another":
			w.meets(1, 20)
			w.live(10, 20, 12, 13)
		}
		list = append(list, state{w, what, p})
	}
	return list
}

// crowd has so many messages said to a client, none of which is known to have come: the window has no room for the last ones.
func crowd(w *world, p *peer, many int) {
	w.t.Helper()
	p.hears()
	for n := 1; n <= many; n++ {
		p.seq++
		if len(p.under) < window {
			p.told(fail(100+n, api.ErrHost))
		}
		w.got(p.packet(p.seq, p.came, bytesOf(commits(100+n, put(5, 0, 1)))), p.told())
	}
}

// isThere tells whether the session of the state's peer is there.
func (s state) isThere() bool {
	return s.h.Live(1) == 11
}

// P19.2: nothing, if the packet can't be: each number one below its least and one above its greatest, and a body that is too
// long.
func TestGotOfWhatCantBe(t *testing.T) {
	for _, s := range inStates(t) {
		for _, first := range []api.Packet{s.p.packet(s.p.seq+1, s.p.came, bytesOf(askRead(5, 0))), hello(1, 11), hello(1, 12), hello(1, 30), hello(1, 5)} {
			p := first
			for _, p.Client = range append(wrong(clients), -1, clients) {
				s.unmoved(p)
			}
			p = first
			for _, p.Epoch = range append(wrong(maxNum+1), -1, maxNum+1) {
				s.unmoved(p)
			}
			p = first
			for _, p.Boot = range append(wrong(maxNum+1), -1, maxNum+1, boot+1<<24, boot-1<<32) {
				s.unmoved(p)
			}
			p = first
			for _, p.Seq = range append(wrong(maxNum+1), -1, maxNum+1) {
				s.unmoved(p)
			}
			p = first
			for _, p.Ack = range append(wrong(maxNum+1), -1, maxNum+1) {
				s.unmoved(p)
			}
			p = first
			for _, long := range []int{701, 702, 1000, 65536 + 24} {
				p.Body = make([]byte, long)
				s.unmoved(p)
			}
			p.Body = append(bytes.Clone(bytesOf(askRead(5, 0))), make([]byte, 700)...)
			s.unmoved(p)
		}
	}
}

// P19.2: the greatest numbers, and the longest body, are those of packets that can be.
func TestGotOfTheGreatest(t *testing.T) {
	w := newWorld(t)
	long := make([]byte, 700)
	w.got(api.Packet{Client: 3, Epoch: maxNum, Seq: maxNum, Ack: maxNum, Body: long}, bare(3, maxNum))
	w.live(0, 0, 0, maxNum)
	p := &peer{client: 3, epoch: maxNum}
	w.unmoved(p.packet(maxNum, 0, long), p.told())
	w.unmoved(p.packet(1, maxNum, long), p.told())
	p.seq++
	w.unmoved(p.packet(1, 0, long), p.told())
	w.unmoved(api.Packet{Client: 3, Epoch: maxNum, Boot: maxNum, Seq: 2, Body: long}, refused(3, maxNum))
	w = opened(t, w.x, w.d, 1, maxNum, patience)
	w.got(hello(0, 1), []api.Packet{{Epoch: 1, Boot: maxNum, Server: true}})
	w.got(api.Packet{Epoch: 1, Boot: maxNum, Seq: 1, Body: long}, []api.Packet{{Epoch: 1, Boot: maxNum, Ack: 1, Server: true}})
}

// P19.2: nothing, if the packet is a server's, be it of what session it may.
func TestGotOfAServer(t *testing.T) {
	for _, s := range inStates(t) {
		for _, boot := range []int{0, 1, boot - 1, boot, boot + 1, maxNum} {
			for _, epoch := range []int{0, 1, 10, 11, 12, 20, 21, maxNum} {
				for _, seq := range []int{0, s.p.seq, s.p.seq + 1} {
					s.unmoved(api.Packet{Client: 1, Epoch: epoch, Boot: boot, Seq: seq, Ack: s.p.came, Server: true, Body: bytesOf(askRead(5, 0))})
				}
			}
		}
	}
}

// P19.2: nothing, if the epoch is 0, be the boot what it may.
func TestGotOfEpoch0(t *testing.T) {
	for _, s := range inStates(t) {
		for client := range clients {
			for _, boot := range []int{0, 1, boot - 1, boot, boot + 1, maxNum} {
				s.unmoved(api.Packet{Client: client, Boot: boot})
				s.unmoved(api.Packet{Client: client, Boot: boot, Seq: s.p.seq + 1, Ack: s.p.came, Body: bytesOf(askRead(5, 0))})
			}
		}
	}
}

// P19.2: Boot 0 with an epoch above the greatest, without a session: there is one, whatever else the packet has; its body
// isn't told.
func TestHello(t *testing.T) {
	for client := range clients {
		for _, epoch := range []int{1, 2, 255, 256, 65536, maxNum - 1, maxNum} {
			for _, seq := range []int{0, 1, 2, maxNum} {
				for _, ack := range []int{0, 1, maxNum} {
					for _, body := range [][]byte{nil, {1}, bytesOf(askRead(1, 1))} {
						w := newWorld(t)
						w.got(api.Packet{Client: client, Epoch: epoch, Seq: seq, Ack: ack, Body: body}, bare(client, epoch))
						for other := range clients {
							if other == client {
								continue
							}
							if got := w.h.Live(other); got != 0 {
								t.Errorf("Live of %d is %d", other, got)
							}
						}
						p := &peer{client: client, epoch: epoch}
						w.has(client, 1, 0, 0)
						w.got(p.says(askWrite(1, 2)), p.told(grant(1, all, all)))
						if got := w.h.Live(client); got != epoch {
							t.Errorf("Live is %d, not %d", got, epoch)
						}
					}
				}
			}
		}
	}
}

// P19.2: sessions of several clients are apart, with the same epochs, too.
func TestHelloOfSeveral(t *testing.T) {
	w := newWorld(t)
	for n, client := range []int{2, 0, 3, 1} {
		w.meets(client, 7)
		want := [][]int{{0, 0, 7, 0}, {7, 0, 7, 0}, {7, 0, 7, 7}, {7, 7, 7, 7}}[n]
		w.live(want...)
	}
	w.ticks(bare(0, 7), bare(1, 7), bare(2, 7), bare(3, 7))
}

// P19.2: Boot 0 with a greater epoch than that of the session: the elder one ends, with all that was said and that wasn't
// known to have come, and the new one begins with nothing.
func TestHelloOfAGreaterEpoch(t *testing.T) {
	for _, epoch := range []int{12, 13, 100, maxNum} {
		for _, s := range inStates(t) {
			if !s.isThere() {
				continue
			}
			list := s.h.Got(hello(1, epoch))
			want := bare(1, epoch)
			switch s.what {
			case "called":
				// What client 2 waited for goes to it, behind the one whose packet it was.
				want = append(want, api.Packet{Client: 2, Epoch: 12, Boot: boot, Seq: 1, Ack: 1, Server: true, Body: bytesOf(grant(1, all, 0))})
			}
			if packetsTold(list) != packetsTold(want) {
				t.Errorf("%s:\n%snot\n%s", s.what, packetsTold(list), packetsTold(want))
			}
			s.live(10, epoch, 12, 13)
			s.has(1, 1, 0, 0)
			old := *s.p
			s.unmoved(old.says(askRead(1, 1)), refused(1, 11))
			s.unmoved(hello(1, 11), refused(1, 11))
			p := &peer{client: 1, epoch: epoch}
			s.got(p.says(askRead(3, 3)), p.told(grant(3, all, 0)))
			s.unmoved(hello(1, epoch), p.told())
		}
	}
}

// P19.2: whoever waited is told behind the one whose packet it was, by rising clients.
func TestHelloTellsOthers(t *testing.T) {
	w := newWorld(t)
	of := w.meetAll()
	w.owns(of[1], 1)
	w.got(of[3].says(askRead(1, 2)), of[3].told(), of[1].told(call(1, 2, false)))
	w.got(of[0].says(askRead(1, 2)), of[0].told())
	w.got(of[2].says(askWrite(1, 0)), of[2].told(), of[1].told(call(1, 0, true)))
	w.got(hello(1, 50), bare(1, 50), of[0].told(grant(1, 14, 0)), of[2].told(grant(1, all, 1)), of[3].told(grant(1, 14, 0)))
	w.live(10, 50, 12, 13)
	w.has(1, 1, 0, 0)
	w.has(0, 1, 14, 0)
	w.has(2, 1, all, 1)
	w.has(3, 1, 14, 0)
}

// P19.2: Boot 0 with the session's own epoch: it is pumped, and nothing else; the others aren't, though they have something
// under way.
func TestHelloAgain(t *testing.T) {
	for _, s := range inStates(t) {
		if !s.isThere() {
			continue
		}
		for _, seq := range []int{0, s.p.seq + 1} {
			for _, ack := range []int{0, s.p.came, s.p.came + len(s.p.under), maxNum} {
				// Neither its body nor its Ack is looked at.
				s.unmoved(api.Packet{Client: 1, Epoch: 11, Seq: seq, Ack: ack, Body: bytesOf(askRead(5, 0))}, s.p.told())
			}
		}
		s.unmoved(hello(1, 11), s.p.told())
	}
}

// P19.2: the session stays as silent as it was by that.
func TestHelloAgainIsSilent(t *testing.T) {
	w := newWorld(t)
	p := w.meets(1, 11)
	for range patience {
		w.ticks(p.told())
		w.unmoved(hello(1, 11), p.told())
	}
	w.ticks()
	w.live(0, 0, 0, 0)
	w.unmoved(hello(1, 11), refused(1, 11))
}

// P19.2: Boot 0 with an epoch that isn't above the greatest, nor that of a session: the answer with Boot 0.
func TestHelloOfALesserEpoch(t *testing.T) {
	for _, s := range inStates(t) {
		greatest := map[string]int{"none": 0, "another": 20}
		most, ok := greatest[s.what]
		if !ok {
			most = 11
		}
		for epoch := 1; epoch <= most; epoch++ {
			if epoch == s.h.Live(1) {
				continue
			}
			s.unmoved(hello(1, epoch), refused(1, epoch))
			s.unmoved(api.Packet{Client: 1, Epoch: epoch, Seq: 1, Ack: 2, Body: bytesOf(askRead(5, 0))}, refused(1, epoch))
		}
		// The next one begins a session.
		if list := s.h.Got(hello(1, most+1)); packetsTold(list[:1]) != packetsTold(bare(1, most+1)) || s.h.Live(1) != most+1 {
			t.Errorf("%s: epoch %d:\n%s", s.what, most+1, packetsTold(list))
		}
	}
}

// P19.2: behind a session's end its own epoch is the greatest still, whichever way it ended.
func TestHelloBehindTheEnd(t *testing.T) {
	w := newWorld(t)
	w.meets(1, 5)
	w.meets(1, 8)
	for range patience + 1 {
		w.h.Tick()
	}
	w.live(0, 0, 0, 0)
	for epoch := 1; epoch <= 8; epoch++ {
		w.unmoved(hello(1, epoch), refused(1, epoch))
	}
	// Of the others nothing is remembered by that.
	w.meets(2, 1)
	w.meets(1, 9)
	w.live(0, 9, 1, 0)
	for range patience + 1 {
		w.h.Tick()
	}
	w.meets(1, maxNum)
	for range patience + 1 {
		w.h.Tick()
	}
	// Behind the last epoch there is no other one.
	w.unmoved(hello(1, maxNum), refused(1, maxNum))
	w.live(0, 0, 0, 0)
}

// P19.2: a boot that is another start's: the answer with Boot 0, with and without a session, whatever else the packet has.
func TestGotOfOtherBoots(t *testing.T) {
	for _, s := range inStates(t) {
		for _, other := range []int{1, boot - 1, boot + 1, boot + 1<<8, boot + 1<<16, maxNum - 1, maxNum} {
			for _, epoch := range []int{1, 10, 11, 12, 20, 21, maxNum} {
				for _, seq := range []int{0, s.p.seq, s.p.seq + 1} {
					p := api.Packet{Client: 1, Epoch: epoch, Boot: other, Seq: seq, Ack: s.p.came, Body: bytesOf(askRead(5, 0))}
					s.unmoved(p, refused(1, epoch))
				}
			}
		}
		if s.isThere() {
			s.unmoved(hello(1, 11), s.p.told())
		}
	}
}

// P19.2: that packet doesn't make the session less silent.
func TestGotOfOtherBootsIsSilent(t *testing.T) {
	w := newWorld(t)
	p := w.meets(1, 11)
	for range patience {
		w.ticks(p.told())
		w.unmoved(api.Packet{Client: 1, Epoch: 11, Boot: boot + 1}, refused(1, 11))
		w.unmoved(api.Packet{Client: 1, Epoch: 12, Boot: boot}, refused(1, 12))
		w.unmoved(api.Packet{Client: 1, Epoch: 10}, refused(1, 10))
	}
	w.ticks()
	w.live(0, 0, 0, 0)
}

// P19.2: the right boot with an epoch that isn't the session's, a greater one, too: the answer with Boot 0.
func TestGotOfOtherEpochs(t *testing.T) {
	for _, s := range inStates(t) {
		for client := range clients {
			for _, epoch := range []int{1, 9, 10, 11, 12, 13, 14, 20, 21, 11 + 1<<8, 11 + 1<<16, maxNum} {
				if epoch == s.h.Live(client) {
					continue
				}
				for _, seq := range []int{0, 1, s.p.seq + 1} {
					s.unmoved(api.Packet{Client: client, Epoch: epoch, Boot: boot, Seq: seq, Ack: s.p.came, Body: bytesOf(askRead(5, 0))}, refused(client, epoch))
				}
			}
		}
	}
}

// unread are bodies that layer 10 doesn't read.
func unread() [][]byte {
	whole := bytesOf(askRead(5, 0))
	other := bytes.Clone(whole)
	other[2] = 9
	return [][]byte{nil, {}, {0}, whole[:23], append(bytes.Clone(whole), 0), other, make([]byte, 700), []byte("none")}
}

// P19.2: a body that is told and isn't read is not done, an empty one neither; that it came is told all the same.
func TestGotOfWhatIsNotRead(t *testing.T) {
	for _, body := range unread() {
		for _, s := range inStates(t) {
			if !s.isThere() {
				continue
			}
			s.p.seq++
			s.unmoved(s.p.packet(s.p.seq, s.p.came, body), s.p.told())
			s.unmoved(s.p.packet(s.p.seq, s.p.came, body), s.p.told())
		}
	}
}

// P19.2: a body that isn't told isn't done: Seq 0, one that came already, one too far ahead, an Ack above what was sent. The
// session is pumped each time.
func TestGotOfWhatIsNotTold(t *testing.T) {
	for _, m := range []api.Msg{askRead(5, 0), askWrite(5, 0), commits(1), commits(1, put(1, 1, 1)), commits(1, put(5, 0, 1)), release(1, all, all), busy(1, 3, false)} {
		for _, s := range inStates(t) {
			if !s.isThere() {
				continue
			}
			sent := s.p.came + len(s.p.under)
			for _, seq := range []int{0, s.p.seq - 1, s.p.seq, s.p.seq + 2, s.p.seq + 3, s.p.seq + 9, maxNum} {
				if seq >= 0 {
					s.unmoved(s.p.packet(seq, s.p.came, bytesOf(m)), s.p.told())
				}
			}
			for _, ack := range []int{sent + 1, sent + 2, maxNum} {
				s.unmoved(s.p.packet(s.p.seq+1, ack, bytesOf(m)), s.p.told())
			}
			for seq := range s.p.came + 1 {
				s.unmoved(s.p.packet(0, seq, nil), s.p.told())
			}
		}
	}
}

// P19.2: what is known to have come isn't sent again, one by one and all at once.
func TestGotOfAcks(t *testing.T) {
	for many := 1; many <= window; many++ {
		for ack := range many + 1 {
			w := newWorld(t)
			p := w.meets(1, 11)
			crowd(w, p, many)
			p.came, p.under = ack, p.under[ack:]
			w.unmoved(p.packet(0, ack, nil), p.told())
			w.unmoved(p.packet(0, 0, nil), p.told())
			w.ticks(p.told())
			w.got(p.says(askRead(2, 2)), p.told(grant(2, all, 0)))
		}
	}
}

// P19.2: each packet of the session makes it one that isn't silent, be it told or not.
func TestGotEndsTheSilence(t *testing.T) {
	for _, packet := range []func(p *peer) api.Packet{
		func(p *peer) api.Packet { return p.hears() },
		func(p *peer) api.Packet { return p.packet(maxNum, 0, nil) },
		func(p *peer) api.Packet { return p.packet(0, maxNum, nil) },
		func(p *peer) api.Packet { return p.packet(1, 0, []byte("none")) },
		func(p *peer) api.Packet { return p.says(commits(0)) },
	} {
		w := newWorld(t)
		p, other := w.meets(1, 11), w.meets(2, 3)
		for range patience {
			w.h.Tick()
		}
		w.h.Got(packet(p))
		w.h.Tick()
		w.live(0, 11, 0, 0)
		w.got(other.hears(), refused(2, 3))
		for range patience - 1 {
			w.h.Tick()
			w.live(0, 11, 0, 0)
		}
		w.h.Tick()
		w.live(0, 0, 0, 0)
	}
}

// P19.2: a packet that comes twice is done once.
func TestGotTwice(t *testing.T) {
	w := newWorld(t)
	a, b := w.meets(0, 1), w.meets(1, 1)
	w.owns(a, 1)
	k := a.says(commits(5, put(1, 1, 6)))
	w.got(k, a.told())
	w.logged(1, 0)
	for range 3 {
		w.unmoved(k, a.told())
	}
	w.open(1)
	k = b.says(askRead(1, 1))
	w.got(k, b.told(), a.told(call(1, 1, false)))
	for range 3 {
		w.unmoved(k, b.told())
	}
	k = a.says(release(1, 0, all))
	w.got(k, a.told(), b.told(grant(1, all, 0, 0, 6)))
	k2 := a.says(askWrite(1, 0))
	w.got(k2, a.told(), b.told(call(1, 0, true)))
	for range 3 {
		// An old one that comes again isn't done, and is answered to its client alone.
		w.unmoved(k, a.told())
		w.unmoved(k2, a.told())
	}
	w.got(b.says(release(1, 1, 1)), b.told(), a.told(grant(1, all, 1, 0, 6)))
	w.has(0, 1, all, 1)
}

// P19.2: the one whose packet it was first, then the others to which something was said, by rising clients, and nobody else.
func TestOrderOfWhatIsSent(t *testing.T) {
	for first := range clients {
		for last := range clients {
			if first == last {
				continue
			}
			w := newWorld(t)
			of := w.meetAll()
			// All but the first one have copies: each of them is called, and that isn't known to have come.
			var called [][]api.Packet
			for _, p := range of {
				if p.client != first {
					w.reads(p, 2)
				}
			}
			k := of[first].says(askWrite(2, 1))
			called = append(called, of[first].told())
			for _, p := range of {
				if p.client != first {
					called = append(called, p.told(call(2, 1, true)))
				}
			}
			w.got(k, called...)
			// They give way, the last one of them at the end.
			for _, p := range of {
				if p.client != first && p.client != last {
					w.got(p.says(release(2, 2, 0)), p.told())
				}
			}
			k = of[last].says(release(2, all, 0))
			w.got(k, of[last].told(), of[first].told(grant(2, all, 2)))
			w.has(first, 2, all, 2)
		}
	}
}

// P19.2: others that have something under way, or in their outbox, but to which nothing was said, aren't pumped.
func TestNobodyElseIsPumped(t *testing.T) {
	for _, many := range []int{3, 8, 12} {
		w := newWorld(t)
		of := w.meetAll()
		for _, p := range []*peer{of[0], of[1], of[3]} {
			crowd(w, p, many)
		}
		w.got(of[2].says(askRead(1, 1)), of[2].told(grant(1, all, 0)))
		w.got(of[2].hears(), of[2].told())
		w.syncs()
		// What is said to one of them is said to that one alone.
		w.got(of[2].says(askWrite(4, 1)), of[2].told(grant(4, all, all)))
		k := of[0].packet(of[0].seq+1, 0, bytesOf(askRead(4, 1)))
		of[0].seq++
		w.got(k, of[0].told(), of[2].told(call(4, 1, false)))
	}
}
