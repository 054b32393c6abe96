package host_test

import (
	"bytes"
	"math"
	"slices"
	"testing"

	"cloakroom/api"
	"cloakroom/host"
	"cloakroom/sector"
	"cloakroom/tape"
)

// row is a row of calls that hangs on where the noise begins alone, and all that is told on the way.
func row(t *testing.T, seed int, between func(w *side, s step)) ([]string, []shown) {
	t.Helper()
	n := noise(1 + 977*seed)
	w, x, p := twins(t, 1+seed%pages, 1+seed%4, 1+seed%5, nil)
	var answers []string
	var list []shown
	for range 120 {
		s := n.step(p, 1+seed%7*3, 1+seed%3)
		between(w, s)
		s.do(x)
		answers = append(answers, packetsTold(s.do(w)))
		if seed%2 == 0 {
			list = append(list, show(w))
		}
	}
	return answers, append(list, show(w))
}

// checkSameRow makes a row with and without something in between.
func checkSameRow(t *testing.T, seed int, between func(w *side, s step)) {
	t.Helper()
	answers, list := row(t, seed, func(*side, step) {})
	again, listAgain := row(t, seed, between)
	if !slices.Equal(answers, again) || !slices.Equal(list, listAgain) {
		t.Errorf("row %d: other answers the second time", seed)
	}
}

// P19.2: packets that do nothing, and those that are answered with Boot 0, change nothing that any call behind them could tell.
func TestPacketsOfNothingChangeNothing(t *testing.T) {
	for seed := range 100 {
		checkSameRow(t, seed, func(w *side, s step) {
			boot := 1 + seed%4
			for client := range clients {
				k := api.Packet{Client: client, Epoch: max(w.h.Live(client), 1), Boot: boot, Seq: 1, Body: bytesOf(askWrite(1, 1))}
				for _, other := range nothings(k) {
					if list := w.h.Got(other); len(list) > 0 {
						t.Errorf("Got %s%s", packetTold(other), packetsTold(list))
					}
				}
				k.Boot = boot + 1
				if list := w.h.Got(k); packetsTold(list) != packetsTold(refused(client, k.Epoch)) {
					t.Errorf("Got %s%s", packetTold(k), packetsTold(list))
				}
				k.Boot, k.Epoch = boot, maxNum
				if list := w.h.Got(k); packetsTold(list) != packetsTold(refused(client, maxNum)) {
					t.Errorf("Got %s%s", packetTold(k), packetsTold(list))
				}
			}
			// What the step itself has, as if it were the server's.
			s.packet.Server = true
			if list := w.h.Got(s.packet); len(list) > 0 {
				t.Errorf("Got %s%s", packetTold(s.packet), packetsTold(list))
			}
		})
	}
}

// nothings are packets like one that is right, by which nothing is done.
func nothings(k api.Packet) []api.Packet {
	var list []api.Packet
	add := func(change func(k *api.Packet)) {
		other := k
		change(&other)
		list = append(list, other)
	}
	for _, number := range []int{math.MinInt, -1, maxNum + 1, math.MaxInt} {
		add(func(k *api.Packet) { k.Client = number })
		add(func(k *api.Packet) { k.Epoch = number })
		add(func(k *api.Packet) { k.Boot = number })
		add(func(k *api.Packet) { k.Seq = number })
		add(func(k *api.Packet) { k.Ack = number })
	}
	add(func(k *api.Packet) { k.Client = clients })
	add(func(k *api.Packet) { k.Epoch = 0 })
	add(func(k *api.Packet) { k.Epoch, k.Boot = 0, 0 })
	add(func(k *api.Packet) { k.Server = true })
	add(func(k *api.Packet) { k.Server, k.Boot, k.Epoch = true, 0, maxNum })
	add(func(k *api.Packet) { k.Body = make([]byte, 701) })
	add(func(k *api.Packet) { k.Body, k.Boot, k.Epoch = make([]byte, 701), 0, maxNum })
	return list
}

// stores are such as the promises are made for, and others: with few pages, none, no room, and pages that can't be read.
func stores(t *testing.T) []*world {
	t.Helper()
	var list []*world
	for _, many := range []int{pages, 3, 1, 0, -1} {
		for _, room := range []int{300, 60, 0} {
			list = append(list, opened(t, tape.New(room), sector.New(many), 1, boot, patience))
		}
	}
	bad := newWorld(t)
	for n := range pages - 1 {
		spoiled(t, bad, n)
	}
	return append(list, bad)
}

// P1: every call ends without a panic at all arguments, also of boots, patiences and stores of which nothing else is promised.
func TestAllArguments(t *testing.T) {
	t.Parallel()
	numbers := append(wrong(maxNum+1), 0, 1, 2, 3, 4, 5, maxNum-1, maxNum)
	for _, w := range stores(t) {
		for _, one := range numbers {
			for _, two := range numbers {
				useAll(host.New(one, two, w.s), one, two)
				useAll(w.h, one, two)
			}
		}
	}
	for _, s := range inStates(t) {
		s.x.Limit(300)
		for _, one := range numbers {
			for _, two := range numbers {
				useAll(s.h, one, two)
			}
		}
	}
}

// useAll makes all calls with these numbers: nothing of it may panic.
func useAll(h anyHost, one, two int) {
	h.Live(one)
	h.Copies(one, two)
	h.Own(one, two)
	h.Open()
	for client := -1; client <= clients; client++ {
		h.Got(hello(client, two))
		h.Got(hello(client, h.Live(client)+1))
		h.Got(api.Packet{Client: client, Epoch: h.Live(client), Boot: boot, Seq: one, Ack: two, Body: bytesOf(askRead(1, 1))})
		h.Got(api.Packet{Client: client, Epoch: h.Live(client), Boot: one, Seq: two, Body: bytesOf(askRead(1, 1))})
		for _, m := range []api.Msg{askRead(5, 3), askWrite(client&3, 1), commits(1), commits(2, put(client&3, 1, 1)), commits(0), release(1, all, all), busy(1, 1, true), done(4)} {
			list := h.Got(hello(client, h.Live(client)))
			if len(list) > 0 {
				h.Got(api.Packet{Client: client, Epoch: h.Live(client), Boot: list[0].Boot, Seq: list[0].Ack + 1, Ack: max(list[0].Seq, 0), Body: bytesOf(m)})
			}
		}
	}
	h.Got(api.Packet{Client: one, Epoch: two, Boot: one, Seq: two, Ack: one, Body: make([]byte, 800)})
	h.Got(api.Packet{Client: one, Epoch: two, Boot: two, Server: true})
	h.Sync()
	h.Tick()
}

// P1: bodies of all kinds, in all states, do no harm.
func TestAllBodies(t *testing.T) {
	bodies := unread()
	for _, m := range []api.Msg{askRead(1, 0), askWrite(1, 0), commits(2, put(1, 1, 1)), release(1, 1, 1), busy(1, 0, true), grant(1, all, all), call(1, 0, true), done(2), fail(0, 5)} {
		b := bytesOf(m)
		for at := range b[:24] {
			for _, other := range []byte{1, 5, 16, 128, 255} {
				c := bytes.Clone(b)
				c[at] ^= other
				bodies = append(bodies, c)
			}
		}
	}
	list := inStates(t)
	for _, body := range bodies {
		for _, s := range list {
			if s.isThere() {
				s.p.seq++
				s.h.Got(s.p.packet(s.p.seq, 0, body))
				s.h.Sync()
			}
		}
	}
	for _, s := range list {
		useAll(s.h, 1, 1)
	}
}

// spoil writes over a list and all bodies in it, spare room too.
func spoil(list []api.Packet) {
	list = list[:cap(list)]
	for k := range list {
		fill(list[k].Body)
		list[k] = api.Packet{Client: 99, Epoch: 99, Boot: 99, Seq: 99, Ack: 99, Server: true, Body: []byte("none")}
	}
}

// fill writes over bytes and all of their spare room.
func fill(b []byte) {
	b = b[:cap(b)]
	for k := range b {
		b[k] = 99
	}
}

// An answer is new memory: written over, spare room too, it changes neither the host nor a later answer.
func TestAnswersAreNewMemory(t *testing.T) {
	for seed := range 100 {
		n := noise(7 + 977*seed)
		w, x, p := twins(t, 1+seed%pages, boot, 3, nil)
		for range 200 {
			s := n.step(p, 1+seed%6*4, 2)
			got, want := s.do(w), s.do(x)
			if !samePackets(got, want) {
				t.Fatalf("row %d: %+v:\n%snot\n%s", seed, s, packetsTold(got), packetsTold(want))
			}
			spoil(got)
		}
		if show(w) != show(x) {
			t.Fatalf("row %d: something else is told", seed)
		}
	}
}

// No two bodies of one answer share memory, spare room too.
func TestBodiesOfOneAnswerAreApart(t *testing.T) {
	for many := 1; many <= window; many++ {
		for at := range 2 * many {
			w := newWorld(t)
			a, b := w.meets(0, 1), w.meets(3, 1)
			crowd(w, a, many)
			crowd(w, b, many)
			list := w.h.Tick()
			want := append(a.told(), b.told()...)
			fill(list[at].Body)
			for n, p := range want {
				if n != at && packetTold(p) != packetTold(list[n]) {
					t.Errorf("behind a change of body %d of %d another one is %s", at, 2*many, packetTold(list[n]))
				}
			}
			w.ticks(a.told(), b.told())
		}
	}
}

// Packets that were handed out stay as they were, whatever comes behind them.
func TestAnswersStayAsTheyWere(t *testing.T) {
	for seed := range 40 {
		n := noise(3 + 977*seed)
		w, x, p := twins(t, 2, boot, 3, nil)
		var answers [][]api.Packet
		var want []string
		for range 300 {
			s := n.step(p, 1+seed%6*4, 2)
			s.do(x)
			answers = append(answers, s.do(w))
			want = append(want, packetsTold(answers[len(answers)-1]))
		}
		for k := range answers {
			if packetsTold(answers[k]) != want[k] {
				t.Fatalf("row %d: the packets were\n%sand are\n%s", seed, want[k], packetsTold(answers[k]))
			}
		}
	}
}

// A packet that is handed in is not changed, spare room included, and not kept.
func TestPacketsAreNotKept(t *testing.T) {
	for seed := range 100 {
		n := noise(11 + 977*seed)
		w, x, p := twins(t, 1+seed%pages, boot, 3, nil)
		for range 200 {
			s := n.step(p, 1+seed%6*4, 2)
			given := bytes.Clone(s.packet.Body)
			room := append(make([]byte, 0, len(given)+30), given...)
			s.packet.Body = room
			want := s.do(x)
			fill(room[len(room):])
			before := bytes.Clone(room[:cap(room)])
			got := s.do(w)
			if !samePackets(got, want) {
				t.Fatalf("row %d: %+v:\n%snot\n%s", seed, s, packetsTold(got), packetsTold(want))
			}
			if !bytes.Equal(room[:cap(room)], before) {
				t.Fatalf("row %d: what was handed in is %x", seed, room[:cap(room)])
			}
			spoil(got)
			if !bytes.Equal(room[:cap(room)], before) {
				t.Fatalf("row %d: written over, what was answered has changed what was handed in: %x", seed, room[:cap(room)])
			}
			fill(room)
		}
		if show(w) != show(x) {
			t.Fatalf("row %d: something else is told", seed)
		}
	}
}

// P2: what a host answers hangs on the calls to it and to its store alone, whatever is asked of others in between.
func TestHostsAreApart(t *testing.T) {
	for seed := range 60 {
		other := &opened(t, tape.New(20000), sector.New(pages), 2, 1+seed%4, 3).side
		checkSameRow(t, seed, func(_ *side, s step) {
			s.do(other)
			other.h.Tick()
			other.h.Got(hello(seed%4, other.h.Live(seed%4)+1))
		})
	}
}

// P2: two hosts don't touch each other, those over the same store neither, but for what the store has.
func TestTwoHosts(t *testing.T) {
	w, x := newWorld(t), newWorld(t)
	a, b := w.meets(1, 5), x.meets(1, 5)
	w.owns(a, 2)
	x.owns(b, 2)
	before := show(&x.side)
	w.got(a.says(commits(1, put(2, 0, 7))), a.told())
	w.syncs(a.told(done(1)))
	w.got(a.says(release(2, all, 0)), a.told())
	w.meets(1, 6)
	w.meets(3, 6)
	for range patience + 1 {
		w.h.Tick()
	}
	if show(&x.side) != before {
		t.Error("calls to one have changed the other")
	}
	x.got(b.says(commits(1, put(2, 0, 8))), b.told())
	x.syncs(b.told(done(1)))
	x.live(0, 5, 0, 0)

	w = newWorld(t)
	other := &world{w.side, t}
	other.h = host.New(boot, patience, w.s)
	a, b = w.meets(1, 5), other.meets(1, 5)
	w.owns(a, 2)
	other.has(1, 2, 0, 0)
	other.owns(b, 2)
	w.got(a.says(commits(1, put(2, 0, 7))), a.told())
	w.open(1)
	other.open(0)
	other.syncs()
	w.open(1)
	w.syncs(a.told(done(1)))
	w.meets(1, 6)
	other.live(0, 5, 0, 0)
	other.has(1, 2, all, all)
}

// P2: asking for what is there changes nothing, however often: the rows are the same with and without.
func TestAskingChangesNothing(t *testing.T) {
	for seed := range 60 {
		checkSameRow(t, seed, func(w *side, _ step) {
			before := show(w)
			for range 3 {
				if show(w) != before {
					t.Fatal("asked again, it tells something else")
				}
			}
		})
	}
}
