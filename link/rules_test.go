package link_test

import (
	"bytes"
	"fmt"
	"slices"
	"testing"

	"cloakroom/api"
	"cloakroom/link"
)

// fill writes over a list and all of its spare room.
func fill(list []byte) {
	list = list[:cap(list)]
	for k := range list {
		list[k] = 99
	}
}

// fillPackets writes over a list of packets, the bodies and all spare room.
func fillPackets(list []api.Packet) {
	list = list[:cap(list)]
	for k := range list {
		fill(list[k].Body)
		list[k] = api.Packet{Client: 99, Seq: 99, Body: []byte("none")}
	}
}

// What is handed in is not changed, spare room included, be it taken or refused.
func TestArgumentsAreNotChanged(t *testing.T) {
	room := text(3, 900)
	before := bytes.Clone(room)
	for _, size := range []int{0, 1, 300, mostBody - 1, mostBody, mostBody + 1, 899, 900} {
		l, other := link.New(2, 5, 7, false), link.New(2, 5, 7, true)
		for n := 1; n <= window+2; n++ {
			l.Push(room[:size])
			l.Packets()
			other.Got(api.Packet{Client: 2, Epoch: 5, Boot: 7, Seq: n, Body: room[:size]})
			other.Got(api.Packet{Client: 2, Epoch: 5, Boot: 7, Seq: n, Body: room[:size]})
			other.Got(api.Packet{Client: 1, Epoch: 5, Boot: 7, Seq: n + 1, Body: room[:size]})
			l.Got(api.Packet{Client: 2, Epoch: 5, Boot: 7, Ack: n / 2, Server: true, Body: room[:size]})
			if !bytes.Equal(room, before) {
				t.Fatalf("%d bytes became %x", size, room)
			}
		}
	}
}

// What is handed in is not kept: a body written over behind Push, its spare room too.
func TestPushedBodiesAreNotKept(t *testing.T) {
	for _, size := range []int{0, 1, 10, mostBody} {
		l := link.New(2, 5, 7, false)
		room := make([]byte, size, size+50)
		var want []api.Packet
		for n := 1; n <= window; n++ {
			copy(room, text(n, size))
			checkPush(t, l, room, api.OK)
			fill(room)
			want = append(want, api.Packet{Client: 2, Epoch: 5, Boot: 7, Seq: n, Body: text(n, size)})
			checkPackets(t, l, want...)
		}
		checkUntold(t, l, answer(0, 3))
		checkPackets(t, l, want[3:]...)
	}
}

// What is handed in is not kept, and what is told is new memory: a packet's body behind Got, and what Got told.
func TestGotBodiesAreNotKept(t *testing.T) {
	for _, size := range []int{0, 1, 10, mostBody} {
		l := made(3, 1, 0)
		var bodies [][]byte
		for n := 1; n <= 20; n += 2 {
			p := answer(n, 1)
			p.Body = append(make([]byte, 0, size+50), text(n, size)...)
			body, ok := l.Got(p)
			fill(p.Body)
			if !ok || !bytes.Equal(body, text(n, size)) {
				t.Fatalf("behind a change of the packet its body is %x", body)
			}
			bodies = append(bodies, body)
			p.Body = append(p.Body[:0], text(n, size)...)
			room := bytes.Clone(p.Body[:cap(p.Body)])
			p.Seq++
			told, _ := l.Got(p)
			fill(told)
			if !bytes.Equal(p.Body[:cap(p.Body)], room) {
				t.Fatalf("behind a change of what was told the packet's body is %x", p.Body)
			}
		}
		checkMade(t, l, 3, 1, 20)
		for k := range bodies {
			if !bytes.Equal(bodies[k], text(2*k+1, size)) {
				t.Errorf("what was told is %x", bodies[k])
			}
			fill(bodies[k])
		}
		checkMade(t, l, 3, 1, 20)
	}
}

// Answers are new memory: the packets, written over, change no later answer and no earlier one.
func TestPacketsAreNewMemory(t *testing.T) {
	for sent := range window + 1 {
		for _, came := range []int{0, sent / 2, sent} {
			l := made(sent, came, 4)
			first, second := l.Packets(), l.Packets()
			want := packetsTold(first)
			fillPackets(first)
			if packetsTold(second) != want {
				t.Errorf("behind a change of one answer the other is\n%snot\n%s", packetsTold(second), want)
			}
			checkMade(t, l, sent, came, 4)
			fillPackets(second)
			checkUntold(t, l, answer(0, sent))
			if sent < window {
				checkPush(t, l, word(sent+1), api.OK)
				checkMade(t, l, sent+1, sent, 4)
			}
		}
	}
}

// Answers are new memory: no two bodies of one answer share any, spare room too.
func TestBodiesOfOneAnswerAreApart(t *testing.T) {
	for _, size := range []int{0, 1, 7, 100, mostBody} {
		for many := 1; many <= window; many++ {
			for k := range many {
				l := link.New(2, 5, 7, false)
				for n := range many {
					l.Push(text(n, size))
				}
				list := l.Packets()
				fill(list[k].Body)
				for n := range many {
					if n != k && !bytes.Equal(list[n].Body, text(n, size)) {
						t.Fatalf("behind a change of body %d of %d the other one, %d, is %x", k, many, n, list[n].Body)
					}
				}
			}
		}
	}
}

// Answers are new memory: packets that were handed out stay as they were, whatever is pushed and comes behind them.
func TestPacketsStayAsTheyWere(t *testing.T) {
	l := link.New(2, 5, 7, false)
	var lists [][]api.Packet
	var want []string
	for n := 1; n <= 60; n++ {
		l.Push(word(n))
		list := l.Packets()
		lists, want = append(lists, list), append(want, packetsTold(list))
		l.Got(answer(n, n/2))
		l.Got(answer(0, n-window+1))
	}
	for k := range lists {
		if packetsTold(lists[k]) != want[k] {
			t.Errorf("the packets were\n%sand are\n%s", want[k], packetsTold(lists[k]))
		}
	}
}

// P1: every call ends without a panic at all arguments, also at an end of numbers that no session has.
func TestEndsOfAllNumbers(t *testing.T) {
	for _, n := range edges {
		for _, server := range []bool{false, true} {
			for _, l := range []*link.Link{link.New(n, 5, 7, server), link.New(2, n, 7, server), link.New(2, 5, n, server), link.New(n, n, n, server)} {
				for k := range window + 1 {
					l.Push(text(k, k*100))
					l.Packets()
				}
				for _, seq := range edges {
					for _, ack := range edges {
						l.Got(api.Packet{Client: n, Epoch: n, Boot: n, Seq: seq, Ack: ack, Server: !server, Body: text(1, 900)})
						l.Got(api.Packet{Client: 2, Epoch: 5, Boot: 7, Seq: seq, Ack: ack, Server: server})
					}
				}
				told(l)
			}
		}
	}
}

// row is a row of calls that hangs on where the noise begins alone, and all that is told on the way.
func row(seed int, between func()) []string {
	n := noise(1 + 977*seed)
	m := &beside{client: seed % 4, epoch: 1, boot: 2, server: seed%2 == 0}
	l := link.New(m.client, m.epoch, m.boot, m.server)
	var all []string
	for range 40 {
		between()
		if n.below(2) == 0 {
			body := text(seed, n.below(mostBody+20))
			m.push(body)
			all = append(all, fmt.Sprint(l.Push(body)))
		} else {
			p := anyPacket(&n, m)
			m.got(p)
			body, ok := l.Got(p)
			all = append(all, fmt.Sprint(body, ok))
		}
		all = append(all, told(l))
	}
	return all
}

// P2: what a link answers hangs on the calls to it alone, whatever others are asked for in between.
func TestLinksAreApart(t *testing.T) {
	for seed := range 30 {
		first := row(seed, func() {})
		other := made(3, 1, 2)
		again := row(seed, func() {
			other.Push(word(1))
			other.Got(answer(other.Heard()+1, other.Sent()-2))
			fillPackets(other.Packets())
			link.New(seed%4, 1, 2, seed%2 == 0).Push(word(2))
		})
		if !slices.Equal(first, again) {
			t.Errorf("row %d: other answers the second time", seed)
		}
	}
}
