package msg_test

import (
	"bytes"
	"fmt"
	"testing"

	"cloakroom/api"
	"cloakroom/msg"
)

// fillBytes writes over a list and all of its spare room.
func fillBytes(list []byte) {
	list = list[:cap(list)]
	for k := range list {
		list[k] = 99
	}
}

// What is handed in is not changed, spare room included, be the answer an error or not: lists of Puts.
func TestPutsAreNotChanged(t *testing.T) {
	room := firstPuts(30)
	before := told(commit(room[:30]...))
	for many := range 28 {
		for kind := range allKinds {
			m := ordinary(kind)
			m.Puts = room[:many]
			msg.Right(m)
			msg.Same(m, m)
			msg.Copy(m)
			msg.Bytes(m)
			if told(commit(room...)) != before {
				t.Fatalf("%d Puts of kind %d became %s", many, kind, told(commit(room...)))
			}
		}
	}
}

// What is handed in is not changed, spare room included, be the answer an error or not: bytes.
func TestBytesAreNotChanged(t *testing.T) {
	for _, b := range [][]byte{form(commit(firstPuts(3)...)), form(ordinary(api.Grant)), frame(packet(30)), text(900)} {
		room := append(bytes.Clone(b), bytes.Repeat([]byte{44}, 60)...)
		before := bytes.Clone(room)
		for size := range len(room) {
			msg.Read(room[:size])
			msg.Open(room[:size])
			p := packet(0)
			p.Body = room[:size]
			msg.Frame(p)
			if !bytes.Equal(room, before) {
				t.Fatalf("%d bytes became %x", size, room)
			}
		}
	}
}

// What is handed in is not kept, and answers are new memory: each stands when the others are written over.
func TestMessagesAreNewMemory(t *testing.T) {
	for many := range mostPuts + 1 {
		puts := firstPuts(many)
		want := commit(firstPuts(many)...)
		first, _ := msg.Bytes(commit(puts...))
		second, _ := msg.Bytes(commit(puts...))
		fillPuts(puts)
		if !bytes.Equal(first, form(want)) {
			t.Errorf("behind a change of the Puts the bytes are %x", first)
		}
		one, _ := msg.Read(first)
		other, _ := msg.Read(first)
		fillBytes(first)
		if !bytes.Equal(second, form(want)) {
			t.Errorf("behind a change of one answer of Bytes the other is %x", second)
		}
		if told(one) != told(want) {
			t.Errorf("behind a change of the bytes the message is %s", told(one))
		}
		fillPuts(one.Puts)
		if told(other) != told(want) {
			t.Errorf("behind a change of one message the other is %s", told(other))
		}
		checkBytes(t, want, form(want))
		checkRead(t, form(want), want)
	}
}

// The same of frames and packets.
func TestPacketsAreNewMemory(t *testing.T) {
	for _, size := range []int{0, 1, 5, 24, mostBody} {
		want := packet(size)
		room := append(text(size), 1, 2, 3)
		p := packet(0)
		p.Body = room[:size]
		first, _ := msg.Frame(p)
		second, _ := msg.Frame(p)
		fillBytes(room)
		if !bytes.Equal(first, frame(want)) {
			t.Errorf("behind a change of the Body the frame is %x", first)
		}
		one, _ := msg.Open(first)
		other, _ := msg.Open(first)
		fillBytes(first)
		if !bytes.Equal(second, frame(want)) {
			t.Errorf("behind a change of one frame the other is %x", second)
		}
		if packetTold(one) != packetTold(want) {
			t.Errorf("behind a change of the frame the packet is %s", packetTold(one))
		}
		fillBytes(one.Body)
		if packetTold(other) != packetTold(want) {
			t.Errorf("behind a change of one packet the other is %s", packetTold(other))
		}
	}
	room := frame(packet(20))
	before := bytes.Clone(room)
	got, _ := msg.Open(room)
	fillBytes(got.Body)
	if !bytes.Equal(room, before) {
		t.Errorf("behind a change of the packet the frame is %x", room)
	}
}

// answersOf is all that the package says of a message, and of a packet with its numbers.
func answersOf(m api.Msg) string {
	b, e := msg.Bytes(m)
	read, readErr := msg.Read(b)
	raw, rawErr := msg.Read(form(m))
	p := api.Packet{Client: m.Page, Epoch: m.Txn, Boot: m.Copy, Seq: m.Own, Ack: m.Kind, Server: m.Write, Body: form(m)}
	f, frameErr := msg.Frame(p)
	opened, openErr := msg.Open(f)
	forced, forcedErr := msg.Open(frame(p))
	return fmt.Sprint(msg.Right(m), msg.Same(m, api.Msg{}), told(msg.Copy(m)), b, e, told(read), readErr, told(raw), rawErr,
		f, frameErr, packetTold(opened), openErr, packetTold(forced), forcedErr)
}

// P1 and P2: every call ends without a panic, and says the same again whatever was asked in between.
func TestAnswersHangOnArgumentsAlone(t *testing.T) {
	all := samples()
	for _, a := range edges {
		for _, b := range edges {
			all = append(all, api.Msg{Kind: a, Page: b}, api.Msg{Kind: a, Txn: b, Copy: b}, api.Msg{Kind: a, Own: b, Obj: b, Write: true},
				api.Msg{Kind: 2, Puts: []api.Put{put(a, b, 1)}}, api.Msg{Kind: a, Puts: []api.Put{put(0, 0, 1), put(b, 0, 1)}})
		}
	}
	var first []string
	for _, m := range all {
		first = append(first, answersOf(m))
	}
	for k := range all {
		k = len(all) - 1 - k
		if again := answersOf(all[k]); again != first[k] {
			t.Errorf("of %s other answers the second time: %s, not %s", told(all[k]), again, first[k])
		}
	}
}

// P1: Read and Open end without a panic, whatever bytes they are given.
func TestBytesOfAllKinds(t *testing.T) {
	n := noise(362436069362436069)
	for range 40000 {
		b := make([]byte, n.below(130))
		for k := range b {
			if n.below(3) == 0 {
				b[k] = byte(n.below(256))
			} else if k%3 == 2 {
				b[k] = byte(n.below(6))
			}
		}
		checkReadBeside(t, b)
		checkOpenBeside(t, b)
		if t.Failed() {
			return
		}
	}
}
