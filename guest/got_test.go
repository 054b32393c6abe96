package guest_test

import (
	"bytes"
	"math"
	"testing"

	"cloakroom/api"
	"cloakroom/guest"
)

// inStates are guests of the session of most tests in all states that there are; those that have a link have come up to
// the server's first packets, how many tells heard.
func inStates(t *testing.T) []state {
	t.Helper()
	list := []state{{"new", guest.New(client, epoch, 2), 0, 0}}
	for _, what := range []string{"idle", "open", "reads", "writes", "commits"} {
		k := met(t, 2).has(1, 7, 3)
		if what != "idle" {
			k.does(begin(), fine)
			k.does(write(1, 0, 50), fine)
			k.does(read(1, 2), valued(values(1)[2]))
		}
		switch what {
		case "reads":
			k.asks(read(1, 3), askRead(1, 3))
		case "writes":
			k.asks(write(1, 2, 60), askWrite(1, 2))
		case "commits":
			k.asks(commit(), commits(2, put(1, 0, 50)))
		}
		list = append(list, state{what, k.g, k.seq, k.sent})
	}
	return append(list, state{"full", crowd(t, window), window, window}, state{"late", crowd(t, 12), 12, window})
}

type state struct {
	what        string
	g           *guest.Guest
	heard, sent int
}

// next is the server's next packet in this state.
func (s state) next(m api.Msg) api.Packet {
	return down(s.heard+1, s.sent, m)
}

// P18.3: nothing, if the packet isn't the server's, be its boot what it may.
func TestGotOfAClient(t *testing.T) {
	for _, s := range inStates(t) {
		for _, boot := range []int{0, 1, boot - 1, boot, boot + 1, maxNum} {
			p := s.next(call(1, 2, true))
			p.Server, p.Boot = false, boot
			checkNothing(t, s.g, p)
		}
	}
}

// P18.3: nothing, if the packet is of another client, be its boot what it may.
func TestGotOfOtherClients(t *testing.T) {
	for _, s := range inStates(t) {
		for _, other := range append(wrong(4), 0, 2, 3, client+1<<8, client+1<<24, client-1<<32) {
			for _, boot := range []int{0, 1, boot - 1, boot, boot + 1, maxNum} {
				p := s.next(call(1, 2, true))
				p.Client, p.Boot = other, boot
				if other != client {
					checkNothing(t, s.g, p)
				}
			}
		}
	}
}

// P18.3: nothing, if the packet is of another epoch, a lesser or a greater one, be its boot what it may.
func TestGotOfOtherEpochs(t *testing.T) {
	for _, s := range inStates(t) {
		for _, other := range append(wrong(maxNum+1), 0, 1, epoch-1, epoch+1, maxNum, epoch+1<<8, epoch+1<<24, epoch-1<<32) {
			for _, boot := range []int{0, 1, boot - 1, boot, boot + 1, maxNum} {
				p := s.next(call(1, 2, true))
				p.Epoch, p.Boot = other, boot
				checkNothing(t, s.g, p)
			}
		}
	}
}

// P18.3: nothing, if the boot isn't from 0 to MaxNum.
func TestGotOfNoBoot(t *testing.T) {
	for _, s := range inStates(t) {
		for _, other := range []int{math.MinInt, math.MinInt + 1, math.MinInt + boot, -maxNum, -boot, -2, -1, maxNum + 1, maxNum + 2, 1<<24 + boot, 1 << 32, 1<<32 + boot,
			boot - 1<<32, math.MaxInt - 1, math.MaxInt} {
			p := s.next(call(1, 2, true))
			p.Boot = other
			checkNothing(t, s.g, p)
		}
	}
}

// P18.3: each boot from 1 to MaxNum, without a link, is that of the link that there is then.
func TestGotWithoutLink(t *testing.T) {
	for _, boot := range []int{1, 2, 255, 256, 65536, maxNum - 1, maxNum} {
		for _, g := range unlinked(t) {
			checkSaid(t, g, api.Packet{Client: client, Epoch: epoch, Boot: boot, Server: true})
			checkSession(t, g, epoch, boot)
			checkTick(t, g, api.Packet{Client: client, Epoch: epoch, Boot: boot})
			checkDo(t, g, begin(), fine)
			sent := api.Packet{Client: client, Epoch: epoch, Boot: boot, Seq: 1, Body: bytesOf(askWrite(2, 2))}
			checkDo(t, g, write(2, 2, 7), waiting, sent)
		}
	}
}

// P18.3: the link's Got of the packet by which there is one follows: its body is told, if it is the first one, and what
// the agent says to it is said.
func TestGotOfTheFirstPacket(t *testing.T) {
	for _, ack := range []int{math.MinInt, -1, 0} {
		for n := range unlinked(t) {
			g := unlinked(t)[n]
			checkSaid(t, g, down(1, ack, call(2, 1, true)), up(1, 1, release(2, 2, 2)))
			checkSession(t, g, epoch, boot)
			g = unlinked(t)[n]
			checkSaid(t, g, down(1, ack, grant(2, all, all)), upBare(1))
			checkMasks(t, g, 2, 0, 0)
			g = unlinked(t)[n]
			p := down(1, ack, done(1))
			p.Body = []byte("none")
			checkSaid(t, g, p, upBare(1))
			checkSaid(t, g, p)
		}
	}
}

// P18.3: where that packet isn't the first one, or has an Ack of what wasn't sent, there is a link, and nothing is told.
func TestGotOfNotTheFirstPacket(t *testing.T) {
	for _, p := range []api.Packet{down(0, 0, call(2, 1, true)), down(2, 0, call(2, 1, true)), down(-1, 0, call(2, 1, true)), down(math.MaxInt, 0, call(2, 1, true)),
		down(1, 1, call(2, 1, true)), down(1, maxNum, call(2, 1, true)), down(1, math.MaxInt, call(2, 1, true))} {
		for _, g := range unlinked(t) {
			checkSaid(t, g, p)
			checkSession(t, g, epoch, boot)
			checkTick(t, g, upBare(0))
			checkSaid(t, g, down(1, 0, call(2, 1, true)), up(1, 1, release(2, 2, 2)))
		}
	}
}

// checkLost hands in a packet by which the session is lost, and looks at all that is left of it.
func checkLost(t *testing.T, g *guest.Guest, p api.Packet, want api.Answer, wantOK bool) {
	t.Helper()
	txn, next := g.Agent().Txn(), g.Epoch()+1
	checkGot(t, g, p, want, wantOK, hello(next))
	checkSession(t, g, next, 0)
	checkAgent(t, g, false, txn, false)
	for page := range pages {
		checkMasks(t, g, page, 0, 0)
	}
	checkDo(t, g, begin(), failed(api.ErrLost))
	checkTick(t, g, hello(next))
	// The next session begins with nothing.
	checkSaid(t, g, api.Packet{Client: client, Epoch: next, Boot: 1, Server: true})
	checkTick(t, g, api.Packet{Client: client, Epoch: next, Boot: 1})
	checkDo(t, g, begin(), fine)
	checkAgent(t, g, true, txn+1, false)
	checkDo(t, g, read(1, 0), waiting, api.Packet{Client: client, Epoch: next, Boot: 1, Seq: 1, Body: bytesOf(askRead(1, 0))})
}

// P18.3: Boot 0, or a link of a lesser boot: the session is lost, whatever else the packet has.
func TestLost(t *testing.T) {
	for _, boot := range []int{0, boot + 1, 256, maxNum - 1, maxNum} {
		for _, seq := range []int{math.MinInt, -1, 0, 1, 2, 9, 13, maxNum, math.MaxInt} {
			for _, ack := range []int{math.MinInt, 0, 1, 8, maxNum, math.MaxInt} {
				for _, s := range inStates(t) {
					p := down(seq, ack, call(1, 2, true))
					p.Boot = boot
					if s.what == "new" && boot > 0 {
						continue
					}
					waited := s.what == "reads" || s.what == "writes" || s.what == "commits"
					if waited {
						checkLost(t, s.g, p, failed(api.ErrLost), true)
					} else {
						checkLost(t, s.g, p, fine, false)
					}
				}
			}
		}
	}
}

// P18.3: Boot 0 without a link: the epoch is one more each time.
func TestLostWithoutLink(t *testing.T) {
	for _, g := range unlinked(t) {
		for n := range 300 {
			checkSession(t, g, epoch+n, 0)
			checkSaid(t, g, api.Packet{Client: client, Epoch: epoch + n, Server: true}, hello(epoch+n+1))
		}
	}
}

// P18.3: calls that were put off are lost, too, and nothing is said to them by the next transaction's end.
func TestLostWithCalls(t *testing.T) {
	k := met(t, 2).has(1, 7, 3)
	k.does(begin(), fine)
	k.does(write(1, 0, 50), fine)
	k.tells(call(1, 0, true), busy(1, 0, true))
	checkLost(t, k.g, api.Packet{Client: client, Epoch: epoch, Boot: boot + 1, Server: true}, fine, false)
	checkGot(t, k.g, api.Packet{Client: client, Epoch: epoch + 1, Boot: 1, Seq: 1, Ack: 1, Server: true, Body: bytesOf(fail(0, 7))}, failed(7), true,
		api.Packet{Client: client, Epoch: epoch + 1, Boot: 1, Ack: 1})
}

// P18.3: an epoch of MaxNum stays, however often the session is lost.
func TestLostInTheLastEpoch(t *testing.T) {
	last := func(boot int) api.Packet {
		return api.Packet{Client: client, Epoch: maxNum, Boot: boot, Server: true}
	}
	g := guest.New(client, maxNum-2, 2)
	for n := maxNum - 2; n < maxNum; n++ {
		checkSession(t, g, n, 0)
		checkSaid(t, g, api.Packet{Client: client, Epoch: n, Server: true}, hello(n+1))
	}
	for n := range 5 {
		checkSaid(t, g, last(0), hello(maxNum))
		checkSession(t, g, maxNum, 0)
		checkTick(t, g, hello(maxNum))
		checkDo(t, g, begin(), failed(api.ErrLost))
		checkSaid(t, g, last(5))
		checkSession(t, g, maxNum, 5)
		checkDo(t, g, begin(), fine)
		checkDo(t, g, commit(), waiting, api.Packet{Client: client, Epoch: maxNum, Boot: 5, Seq: 1, Body: bytesOf(commits(n + 1))})
		checkGot(t, g, last(6-6*(n%2)), failed(api.ErrLost), true, hello(maxNum))
		checkSession(t, g, maxNum, 0)
	}
}

// P18.3: packets of the elder epoch, behind a lost session, are nothing; nor is one of an epoch to come.
func TestGotOfTheElderEpoch(t *testing.T) {
	for _, next := range []bool{false, true} {
		for _, s := range inStates(t) {
			s.g.Got(api.Packet{Client: client, Epoch: epoch, Server: true})
			if next {
				checkSaid(t, s.g, api.Packet{Client: client, Epoch: epoch + 1, Boot: boot, Server: true})
			}
			for _, boot := range []int{0, 1, boot - 1, boot, boot + 1, maxNum} {
				for _, p := range []api.Packet{s.next(call(1, 2, true)), down(1, 0, call(1, 2, true)), down(0, 0, done(1))} {
					p.Boot = boot
					checkNothing(t, s.g, p)
					p.Epoch = epoch + 2
					checkNothing(t, s.g, p)
				}
			}
		}
	}
}

// P18.3: nothing, if the boot is below the link's.
func TestGotOfAnElderBoot(t *testing.T) {
	for _, s := range inStates(t)[1:] {
		for lesser := 1; lesser < boot; lesser++ {
			for seq := -1; seq < 15; seq++ {
				for _, ack := range []int{-1, 0, 1, s.sent, s.sent + 1} {
					p := down(seq, ack, call(1, 2, true))
					p.Boot = lesser
					checkNothing(t, s.g, p)
				}
			}
		}
	}
	g := guest.New(client, epoch, 2)
	p := downBare(0)
	p.Boot = maxNum
	checkSaid(t, g, p)
	for _, lesser := range []int{1, 2, 65536, maxNum - 1} {
		p = down(1, 0, call(1, 2, true))
		p.Boot = lesser
		checkNothing(t, g, p)
	}
}

// P18.3: a body of each kind of the server's, to which the agent says something: that is said, and its answer told.
func TestGotOfMessagesThatAreAnswered(t *testing.T) {
	k := met(t, 1).has(1, 7, 3)
	k.tells(call(1, 2, true), release(1, 4, 4))
	k.does(begin(), fine)
	k.does(write(1, 0, 50), fine)
	k.tells(call(1, 0, false), busy(1, 0, false))
	k.tells(call(1, 1, false), release(1, 0, 2))
	k.asks(commit(), commits(2, put(1, 0, 50)))
	k.answers(done(2), fine, release(1, 0, 1))
	k.does(begin(), fine)
	k.asks(read(4, 3), askRead(4, 3))
	k.answers(grant(4, all, all), valued(values(4)[3]), release(1, all, all))
	k.tells(call(4, 3, true), busy(4, 3, true))
	k.asks(read(2, 0), askRead(2, 0))
	k.answers(grant(2, 1, 0), failed(api.ErrRoom), release(2, all, all))
	k.asks(read(2, 0), askRead(2, 0))
	k.answers(fail(0, api.ErrDeadlock), failed(api.ErrDeadlock), release(4, 8, all))
	checkAgent(t, k.g, false, 3, false)
	checkMasks(t, k.g, 4, 7, 0)
}

// P18.3: a body of each kind by which the agent says nothing: what is under way is sent, so that the server hears that it
// came; an answer is told all the same.
func TestGotOfMessagesWithoutMessages(t *testing.T) {
	k := met(t, 3).has(1, 7, 3)
	nothing := []api.Msg{askRead(1, 0), askWrite(1, 2), commits(1), commits(1, put(1, 0, 9)), release(1, all, all), busy(1, 0, true),
		grant(1, all, all), grant(2, all, all), done(0), done(1), done(maxNum), fail(0, 7), fail(1, 7)}
	for _, m := range nothing {
		before := show(k.g)
		k.tells(m)
		after := show(k.g)
		if before.tick == after.tick {
			t.Errorf("behind %+v it isn't told that it came", m)
		}
		after.tick = before.tick
		if after != before {
			t.Errorf("%+v has changed something", m)
		}
	}
	k.does(begin(), fine)
	k.asks(write(2, 1, 60), askWrite(2, 1))
	k.answers(grant(2, 2, 2), fine)
	k.asks(commit(), commits(2, put(2, 1, 60)))
	k.answers(done(2), fine)
	k.does(begin(), fine)
	k.asks(commit(), commits(3))
	k.answers(fail(3, api.ErrFull), failed(api.ErrFull))
	// With something under way that is sent again, and no bare packet.
	k.does(begin(), fine)
	k.asks(read(3, 3), askRead(3, 3))
	for _, m := range []api.Msg{askRead(1, 0), done(4), fail(3, 7), grant(2, 1, 0), release(3, 1, 1)} {
		k.seq++
		checkSaid(t, k.g, down(k.seq, k.sent-1, m), up(k.sent, k.seq, askRead(3, 3)))
	}
	k.seq++
	checkGot(t, k.g, down(k.seq, k.sent-1, grant(3, 8, 0)), valued(values(3)[3]), true, up(k.sent, k.seq, askRead(3, 3)))
}

// unread are bodies that layer 10 doesn't read.
func unread() [][]byte {
	c := bytesOf(call(1, 2, true))
	g := bytesOf(grant(1, all, all))
	kind := bytes.Clone(c)
	kind[2] = 9
	page := bytes.Clone(c)
	page[5] = 6
	return [][]byte{nil, {}, {0}, c[:len(c)-1], append(bytes.Clone(c), 0), g[:len(g)-1], kind, page, make([]byte, 700), make([]byte, 701), make([]byte, 5000), []byte("nothing at all")}
}

// P18.3: a body that layer 10 doesn't read: nothing is told, and what is under way is sent, so that the server hears that
// it came.
func TestGotOfBodiesThatCantBeRead(t *testing.T) {
	for _, body := range unread() {
		k := met(t, 2).has(1, 7, 3)
		unreadable := func(ack int) api.Packet {
			k.seq++
			return api.Packet{Client: client, Epoch: epoch, Boot: boot, Seq: k.seq, Ack: ack, Server: true, Body: body}
		}
		checkSaid(t, k.g, unreadable(k.sent), upBare(k.seq))
		k.does(begin(), fine)
		k.asks(read(2, 1), askRead(2, 1))
		checkSaid(t, k.g, unreadable(k.sent-1), up(k.sent, k.seq, askRead(2, 1)))
		checkAgent(t, k.g, true, 2, true)
		checkSaid(t, k.g, unreadable(k.sent), upBare(k.seq))
		checkMasks(t, k.g, 1, 7, 3)
		k.answers(grant(2, 2, 0), valued(values(2)[1]))
	}
}

// P18.3: a body that layer 10 doesn't read, with something in the outbox: that is pumped.
func TestGotOfBodiesThatCantBeReadPumps(t *testing.T) {
	for _, body := range unread() {
		g := crowd(t, 12)
		for ack := range 6 {
			p := api.Packet{Client: client, Epoch: epoch, Boot: boot, Seq: 13 + ack, Ack: ack, Server: true, Body: body}
			checkSaid(t, g, p, crowdSaid(ack, min(ack+window, 12), 13+ack)...)
		}
	}
}

// P18.3: no body is told, and the outbox is empty: nothing is sent, but what came is under way no more.
func TestGotOfNoBody(t *testing.T) {
	for many := range window + 1 {
		for _, seq := range []int{math.MinInt, -maxNum, -1, 0, 1, many - 1, many, many + 2, many + 3, maxNum, maxNum + 1, math.MaxInt} {
			if seq == many+1 {
				continue
			}
			for came := range many + 1 {
				g := crowd(t, many)
				checkSaid(t, g, down(seq, came, call(0, 0, true)))
				checkTick(t, g, crowdSaid(came, many, many)...)
				checkNothing(t, g, down(seq, came, call(0, 0, true)))
				checkNothing(t, g, down(seq, came-1, call(0, 0, true)))
				checkNothing(t, g, down(seq, math.MinInt, call(0, 0, true)))
			}
		}
	}
}

// P18.3: an Ack above what was sent: no body is told, also of the next packet, and nothing is under way less.
func TestGotOfAcksOfWhatWasNotSent(t *testing.T) {
	for many := range window + 1 {
		g := crowd(t, many)
		for _, ack := range []int{many + 1, many + 2, many + 256, maxNum, maxNum + 1, math.MaxInt} {
			for _, seq := range []int{-1, 0, 1, many, many + 1, many + 2} {
				checkNothing(t, g, down(seq, ack, call(0, 0, true)))
			}
		}
	}
	// With an outbox that isn't empty it is pumped: nothing goes, but all that is under way is sent.
	for many := window + 1; many <= 20; many++ {
		g := crowd(t, many)
		for _, ack := range []int{window + 1, many, many + 1, maxNum, math.MaxInt} {
			for _, seq := range []int{0, 1, many, many + 1, many + 2} {
				before := show(g)
				checkSaid(t, g, down(seq, ack, call(0, 0, true)), crowdSaid(0, window, many)...)
				if show(g) != before {
					t.Errorf("an Ack of %d has changed something", ack)
				}
			}
		}
	}
}

// P18.3: no body is told, and the outbox isn't empty: it is pumped, by a packet that makes room, and by one that doesn't.
func TestGotOfNoBodyPumps(t *testing.T) {
	for many := window + 1; many <= 20; many++ {
		for _, seq := range []int{math.MinInt, -1, 0, 1, many - 1, many, many + 2, maxNum, math.MaxInt} {
			for came := range window + 1 {
				g := crowd(t, many)
				last := min(came+window, many)
				checkSaid(t, g, down(seq, came, call(0, 0, true)), crowdSaid(came, last, many)...)
				checkTick(t, g, crowdSaid(came, last, many)...)
				again := crowdSaid(came, last, many)
				if last == many {
					again = nil
				}
				checkSaid(t, g, down(seq, came, call(0, 0, true)), again...)
			}
		}
	}
}

// P18.3: a packet that comes twice is told once.
func TestGotTwice(t *testing.T) {
	k := met(t, 2)
	k.does(begin(), fine)
	k.asks(read(2, 1), askRead(2, 1))
	k.answers(grant(2, all, 0), valued(values(2)[1]))
	checkNothing(t, k.g, down(1, 1, grant(2, all, 0)))
	k.tells(call(2, 1, true), busy(2, 1, true))
	for range 3 {
		checkNothing(t, k.g, down(2, 1, call(2, 1, true)))
		checkNothing(t, k.g, down(1, 1, grant(2, all, 0)))
	}
	k.does(abort(), fine, release(2, 2, 2))
	checkNothing(t, k.g, down(2, 1, call(2, 1, true)))
	// Another body with a number that came already isn't told either.
	checkNothing(t, k.g, down(2, 1, call(2, 0, true)))
	checkMasks(t, k.g, 2, 13, 0)
}

// P18.3: packets that are turned on their way are told in their order, each when it is its turn.
func TestGotTurned(t *testing.T) {
	k := met(t, 2).has(2, all, 0)
	first, second := down(2, 1, call(2, 0, true)), down(3, 1, call(2, 1, true))
	checkNothing(t, k.g, second)
	checkSaid(t, k.g, first, up(2, 2, release(2, 1, 1)))
	checkSaid(t, k.g, second, up(2, 3, release(2, 1, 1)), up(3, 3, release(2, 2, 2)))
	checkNothing(t, k.g, first)
	checkMasks(t, k.g, 2, 12, 0)
}

// P18.3: the Ack counts ahead of what is said to the body: it goes into the room that the packet itself makes.
func TestGotOfAnAckWithABody(t *testing.T) {
	for came := range window + 1 {
		g := crowd(t, window)
		checkSaid(t, g, down(window+1, came, crowdCall(window+1)), crowdSaid(came, min(came+window, window+1), window+1)...)
		_, x := g.Do(begin())
		if late := x.Err == api.ErrLate; late != (came == 0) {
			t.Errorf("behind %d that came: %+v", came, x)
		}
	}
}
