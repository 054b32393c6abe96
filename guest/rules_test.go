package guest_test

import (
	"bytes"
	"math"
	"slices"
	"testing"

	"cloakroom/api"
	"cloakroom/guest"
)

// row is a row of calls that hangs on where the noise begins alone, and all that is told on the way.
func row(seed int, between func(g *guest.Guest, s step)) ([]told, []shown) {
	n := noise(1 + 977*seed)
	g, p := guest.New(seed%4, 1+seed%3, 1+seed%pages), newPlain(seed%4, 1+seed%3, 1+seed%pages)
	var answers []told
	var list []shown
	for range 120 {
		s := n.step(p, 1+seed%7*3)
		between(g, s)
		s.do(p)
		answers = append(answers, s.do(g))
		if seed%2 == 0 {
			list = append(list, show(g))
		}
	}
	return answers, append(list, show(g))
}

// checkSameRow makes a row with and without something in between.
func checkSameRow(t *testing.T, seed int, between func(g *guest.Guest, s step)) {
	t.Helper()
	answers, list := row(seed, func(*guest.Guest, step) {})
	again, listAgain := row(seed, between)
	if !slices.EqualFunc(answers, again, told.same) || !slices.Equal(list, listAgain) {
		t.Errorf("row %d: other answers the second time", seed)
	}
}

// refusedOps are those that can't be asked in this state: without a link, or with an outbox that isn't empty, all of them.
func refusedOps(g *guest.Guest) []api.Op {
	list := []api.Op{{Kind: -1}, {Kind: 5}, {Kind: math.MaxInt}, read(6, 0), read(0, 4), write(-1, 0, 8), write(2, 4, 8)}
	a := g.Agent()
	e := show(g).refused
	if e != api.ErrPlace || a.Waits() {
		return append(list, begin(), read(0, 0), read(1, 1), write(0, 0, 8), write(1, 1, 8), commit(), abort())
	}
	if a.Open() {
		return append(list, begin())
	}
	return append(list, read(0, 0), read(1, 1), write(0, 0, 8), write(1, 1, 8), commit(), abort())
}

// P18.2: an error changes nothing that any call behind it could tell, and sends nothing.
func TestErrorsChangeNothing(t *testing.T) {
	for seed := range 150 {
		checkSameRow(t, seed, func(g *guest.Guest, _ step) {
			for _, o := range refusedOps(g) {
				if list, x := g.Do(o); len(list) > 0 || x.Err == api.OK || x != failed(x.Err) {
					t.Errorf("%+v: %+v and\n%s", o, x, packetsTold(list))
				}
			}
		})
	}
}

// P18.3: packets that do nothing change nothing that any call behind them could tell.
func TestPacketsOfNothingChangeNothing(t *testing.T) {
	for seed := range 150 {
		checkSameRow(t, seed, func(g *guest.Guest, _ step) {
			p := api.Packet{Client: seed % 4, Epoch: g.Epoch(), Boot: g.Boot(), Seq: g.Tick()[0].Ack + 1, Server: true, Body: bytesOf(call(1, 1, true))}
			for _, boot := range []int{0, 1, p.Boot, p.Boot + 1, maxNum} {
				other := p
				other.Boot = boot
				other.Server = false
				checkNothing(t, g, other)
				other.Server, other.Client = true, p.Client+1
				checkNothing(t, g, other)
				other.Client, other.Epoch = p.Client, p.Epoch-1
				checkNothing(t, g, other)
				other.Epoch = p.Epoch + 1
				checkNothing(t, g, other)
				other.Epoch = p.Epoch
				if boot > 0 && boot < p.Boot {
					checkNothing(t, g, other)
				}
			}
			for _, boot := range []int{math.MinInt, -1, maxNum + 1, math.MaxInt} {
				p.Boot = boot
				checkNothing(t, g, p)
			}
		})
	}
}

// P1: every call ends without a panic at all arguments, also of clients and epochs that can't be.
func TestAllArguments(t *testing.T) {
	numbers := append(wrong(maxNum+1), 0, 1, 2, 3, 4, 5, maxNum-1, maxNum)
	for _, one := range numbers {
		for _, two := range numbers {
			g := guest.New(one, two, one)
			useAll(g, one, two)
			g = guest.New(client, epoch, 2)
			useAll(g, one, two)
		}
	}
	for _, s := range inStates(t) {
		for _, one := range numbers {
			for _, two := range numbers {
				useAll(s.g, one, two)
			}
		}
	}
}

// useAll makes all calls with these numbers: nothing of it may panic.
func useAll(g *guest.Guest, one, two int) {
	g.Epoch()
	g.Boot()
	g.Agent()
	g.Tick()
	for kind := -1; kind <= 5; kind++ {
		g.Do(api.Op{Kind: kind, Page: one, Obj: two, Value: 1})
	}
	g.Do(api.Op{Kind: one, Page: two})
	g.Got(api.Packet{Client: g.Tick()[0].Client, Epoch: g.Epoch(), Boot: g.Boot(), Seq: one, Ack: two, Server: true})
	g.Got(api.Packet{Client: g.Tick()[0].Client, Epoch: g.Epoch(), Boot: one, Seq: 1, Ack: two, Server: true, Body: bytesOf(call(1, 1, true))})
	g.Got(api.Packet{Client: one, Epoch: two, Boot: one, Seq: two, Ack: one, Server: true, Body: make([]byte, 800)})
	g.Got(api.Packet{Client: client, Epoch: one, Boot: two, Server: true})
	g.Got(api.Packet{Client: one, Epoch: epoch, Boot: two})
	g.Do(begin())
	g.Do(commit())
	g.Tick()
}

// P1: bodies of all kinds, in all states, do no harm.
func TestAllBodies(t *testing.T) {
	bodies := unread()
	for _, m := range []api.Msg{askRead(1, 0), askWrite(1, 0), commits(2), release(1, 1, 1), busy(1, 0, true), grant(1, all, all), call(1, 0, true), done(2), fail(0, 5)} {
		b := bytesOf(m)
		for at := range b[:24] {
			for _, other := range []byte{1, 5, 16, 128, 255} {
				c := bytes.Clone(b)
				c[at] ^= other
				bodies = append(bodies, c)
			}
		}
	}
	for _, body := range bodies {
		for _, s := range inStates(t) {
			p := s.next(done(1))
			p.Body = body
			s.g.Got(p)
			s.g.Got(p)
			useAll(s.g, 1, 1)
		}
	}
}

// spoil writes over a list and all bodies in it, spare room too.
func spoil(list []api.Packet) {
	list = list[:cap(list)]
	for k := range list {
		fill(list[k].Body)
		list[k] = api.Packet{Client: 99, Epoch: 99, Boot: 99, Seq: 99, Ack: 99, Server: true, Body: []byte("none")}
	}
}

// fill writes over bytes and all of their spare room.
func fill(b []byte) {
	b = b[:cap(b)]
	for k := range b {
		b[k] = 99
	}
}

// An answer is new memory: written over, spare room too, it changes neither the guest nor a later answer.
func TestAnswersAreNewMemory(t *testing.T) {
	for seed := range 150 {
		n := noise(7 + 977*seed)
		g, p := guest.New(2, 5, 1+seed%pages), newPlain(2, 5, 1+seed%pages)
		for range 200 {
			s := n.step(p, 1+seed%6*4)
			got, want := s.do(g), s.do(p)
			if !got.same(want) {
				t.Fatalf("row %d: %+v: %+v, not %+v", seed, s, got, want)
			}
			spoil(got.list)
		}
	}
}

// No two bodies of one answer share memory, spare room too.
func TestBodiesOfOneAnswerAreApart(t *testing.T) {
	for many := 1; many <= window; many++ {
		for at := range many {
			g := crowd(t, many)
			list := g.Tick()
			fill(list[at].Body)
			for n, p := range crowdSaid(0, many, many) {
				if n != at && packetTold(p) != packetTold(list[n]) {
					t.Errorf("behind a change of body %d of %d another one is %s", at, many, packetTold(list[n]))
				}
			}
			checkTick(t, g, crowdSaid(0, many, many)...)
		}
	}
}

// Packets that were handed out stay as they were, whatever comes behind them.
func TestAnswersStayAsTheyWere(t *testing.T) {
	for seed := range 60 {
		n := noise(3 + 977*seed)
		g, p := guest.New(2, 5, 2), newPlain(2, 5, 2)
		var answers []told
		var want []string
		for range 300 {
			s := n.step(p, 1+seed%6*4)
			s.do(p)
			a := s.do(g)
			answers, want = append(answers, a), append(want, packetsTold(a.list))
		}
		for k := range answers {
			if packetsTold(answers[k].list) != want[k] {
				t.Fatalf("row %d: the packets were\n%sand are\n%s", seed, want[k], packetsTold(answers[k].list))
			}
		}
	}
}

// A packet that is handed in is not changed, spare room included, and not kept.
func TestPacketsAreNotKept(t *testing.T) {
	for seed := range 150 {
		n := noise(11 + 977*seed)
		g, p := guest.New(2, 5, 1+seed%pages), newPlain(2, 5, 1+seed%pages)
		for range 200 {
			s := n.step(p, 1+seed%6*4)
			given := bytes.Clone(s.packet.Body)
			room := append(make([]byte, 0, len(given)+30), given...)
			s.packet.Body = room
			want := s.do(p)
			fill(room[len(room):])
			before := bytes.Clone(room[:cap(room)])
			got := s.do(g)
			if !got.same(want) {
				t.Fatalf("row %d: %+v: %+v, not %+v", seed, s, got, want)
			}
			if !bytes.Equal(room[:cap(room)], before) {
				t.Fatalf("row %d: what was handed in is %x", seed, room[:cap(room)])
			}
			spoil(got.list)
			if !bytes.Equal(room[:cap(room)], before) {
				t.Fatalf("row %d: written over, what was answered has changed what was handed in: %x", seed, room[:cap(room)])
			}
			fill(room)
		}
	}
}

// P2: what a guest answers hangs on the calls to it alone, whatever is asked of others in between.
func TestGuestsAreApart(t *testing.T) {
	for seed := range 80 {
		other := guest.New(seed%4, 1+seed%3, 2)
		checkSameRow(t, seed, func(_ *guest.Guest, s step) {
			s.do(other)
			other.Tick()
			guest.New(seed%4, 1, 3).Tick()
		})
	}
}

// P2: two guests of the same session don't touch each other.
func TestTwoGuests(t *testing.T) {
	a, b := met(t, 2).has(3, all, all), met(t, 2).has(3, all, all)
	before := show(b.g)
	a.does(begin(), fine)
	a.does(write(3, 1, 7), fine)
	a.tells(call(3, 0, true), release(3, 1, 13))
	a.asks(commit(), commits(2, put(3, 1, 7)))
	a.answers(done(2), fine)
	if show(b.g) != before {
		t.Error("calls to one have changed the other")
	}
	checkLost(t, a.g, api.Packet{Client: client, Epoch: epoch, Server: true}, fine, false)
	if show(b.g) != before {
		t.Error("the lost session of one has changed the other")
	}
	b.does(begin(), fine)
	b.does(read(3, 1), valued(values(3)[1]))
	b.tells(call(3, 1, true), busy(3, 1, true))
	checkSession(t, b.g, epoch, boot)
}

// P2: asking for what is there changes nothing, however often: the rows are the same with and without.
func TestAskingChangesNothing(t *testing.T) {
	for seed := range 80 {
		checkSameRow(t, seed, func(g *guest.Guest, _ step) {
			before := show(g)
			for range 3 {
				if show(g) != before {
					t.Fatal("asked again, it tells something else")
				}
			}
		})
	}
}
