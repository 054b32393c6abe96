package guest_test

import (
	"testing"

	"cloakroom/api"
	"cloakroom/guest"
	"cloakroom/link"
)

// A whole transaction by packets: AskRead, Grant, AskWrite, Grant, Commit, Done; the next one reads without a message.
func TestTransaction(t *testing.T) {
	g := guest.New(client, epoch, 2)
	checkTick(t, g, hello(epoch))
	checkSaid(t, g, downBare(0))
	checkDo(t, g, begin(), fine)
	checkDo(t, g, read(2, 1), waiting, up(1, 0, askRead(2, 1)))
	checkGot(t, g, down(1, 1, grant(2, all, 0)), valued(values(2)[1]), true, upBare(1))
	checkDo(t, g, write(2, 1, 70), waiting, up(2, 1, askWrite(2, 1)))
	checkGot(t, g, down(2, 2, grant(2, all, all)), fine, true, upBare(2))
	checkDo(t, g, read(2, 1), valued(70))
	checkSaid(t, g, down(3, 2, call(2, 1, false)), up(3, 3, busy(2, 1, false)))
	checkDo(t, g, commit(), waiting, up(3, 3, busy(2, 1, false)), up(4, 3, commits(1, put(2, 1, 70))))
	checkAgent(t, g, true, 1, true)
	checkSaid(t, g, downBare(3))
	checkTick(t, g, up(4, 3, commits(1, put(2, 1, 70))))
	checkGot(t, g, down(4, 4, done(1)), fine, true, up(5, 4, release(2, 0, all)))
	checkAgent(t, g, false, 1, false)
	checkMasks(t, g, 2, all, 0)
	checkSaid(t, g, downBare(5))
	checkDo(t, g, begin(), fine)
	checkDo(t, g, read(2, 1), valued(70))
	checkDo(t, g, commit(), waiting, up(6, 4, commits(2)))
	checkGot(t, g, down(5, 6, done(2)), fine, true, upBare(5))
	checkTick(t, g, upBare(5))
}

// The same with packets that are lost, come twice, and come late: what is asked is asked once, and answered once.
func TestTransactionOnABadWay(t *testing.T) {
	g := guest.New(client, epoch, 2)
	checkTick(t, g, hello(epoch))
	checkTick(t, g, hello(epoch))
	checkSaid(t, g, downBare(0))
	checkSaid(t, g, downBare(0))
	checkDo(t, g, begin(), fine)
	checkDo(t, g, write(2, 1, 70), waiting, up(1, 0, askWrite(2, 1)))
	checkTick(t, g, up(1, 0, askWrite(2, 1)))
	checkTick(t, g, up(1, 0, askWrite(2, 1)))
	// The server's second packet overtakes its first one.
	checkSaid(t, g, down(2, 1, call(2, 1, true)))
	checkTick(t, g, upBare(0))
	checkGot(t, g, down(1, 1, grant(2, all, all)), fine, true, upBare(1))
	checkSaid(t, g, down(1, 1, grant(2, all, all)))
	checkSaid(t, g, down(2, 1, call(2, 1, true)), up(2, 2, busy(2, 1, true)))
	checkSaid(t, g, down(2, 1, call(2, 1, true)))
	checkDo(t, g, commit(), waiting, up(2, 2, busy(2, 1, true)), up(3, 2, commits(1, put(2, 1, 70))))
	checkTick(t, g, up(2, 2, busy(2, 1, true)), up(3, 2, commits(1, put(2, 1, 70))))
	checkGot(t, g, down(3, 3, done(1)), fine, true, up(4, 3, release(2, 2, all)))
	checkSaid(t, g, down(3, 3, done(1)))
	checkSaid(t, g, down(1, 1, grant(2, all, all)))
	checkMasks(t, g, 2, 13, 0)
	checkTick(t, g, up(4, 3, release(2, 2, all)))
}

// A commit of all objects is said, too: no body is longer than a link takes.
func TestCommitOfAll(t *testing.T) {
	k := met(t, pages)
	for page := range pages {
		k.has(page, all, all)
	}
	k.does(begin(), fine)
	var puts []api.Put
	for page := range pages {
		for obj := range objs {
			k.does(write(page, obj, complex(float64(page), float64(obj))), fine)
			puts = append(puts, put(page, obj, complex(float64(page), float64(obj))))
		}
	}
	k.asks(commit(), commits(7, puts...))
	k.answers(done(7), fine)
	k.does(begin(), fine)
	k.does(read(5, 3), valued(5+3i))
}

// putOff is a session in which more calls were put off than a window has room for, of two pages that the transaction
// uses, and the Releases that its end says to them.
func putOff(t *testing.T) (*talk, []api.Msg) {
	t.Helper()
	k := met(t, 2).has(1, all, 7).has(4, all, 7)
	k.does(begin(), fine)
	var list []api.Msg
	called := func(page, obj int, write bool) {
		k.tells(call(page, obj, write), busy(page, obj, write))
		m := release(page, 0, 1<<obj)
		if write {
			m.Copy = m.Own
		}
		list = append(list, m)
	}
	for obj := range objs {
		for _, page := range []int{4, 1} {
			k.does(read(page, obj), valued(values(page)[obj]))
			called(page, obj, true)
			if obj < 3 {
				k.does(write(page, obj, 9), fine)
				called(page, obj, false)
			}
		}
	}
	if len(list) <= window {
		t.Fatal("too few calls")
	}
	return k, list
}

// checkWindow looks at all that goes, when so many of what was said at once have come, one by one: eight are under way, and
// the rest is in the outbox, in its order.
func checkWindow(t *testing.T, k *talk, list []api.Msg) {
	t.Helper()
	underWay := func(came int) []api.Packet {
		var sent []api.Packet
		for n := came; n < min(came+window, len(list)); n++ {
			sent = append(sent, up(k.sent+1+n, k.seq, list[n]))
		}
		return sent
	}
	checkTick(t, k.g, underWay(0)...)
	for came := range len(list) {
		sent := underWay(came)
		if came+window > len(list) {
			// The outbox was empty ahead of this one.
			sent = nil
		}
		checkSaid(t, k.g, downBare(k.sent+came), sent...)
		want := failed(api.ErrLate)
		if came+window >= len(list) {
			want = failed(api.ErrState)
		}
		checkDo(t, k.g, abort(), want)
		checkTick(t, k.g, underWay(came)...)
	}
	checkSaid(t, k.g, downBare(k.sent+len(list)))
	checkTick(t, k.g, upBare(k.seq))
	checkDo(t, k.g, begin(), fine)
}

// firstOf are the packets of the first ones that the window has room for.
func firstOf(k *talk, list []api.Msg) []api.Packet {
	var sent []api.Packet
	for n, m := range list[:window] {
		sent = append(sent, up(k.sent+1+n, k.seq, m))
	}
	return sent
}

// PUMP: more messages at once than the window has room for, by Do and by Got: the rest stays in the outbox in its order, and
// goes when there is room.
func TestMoreThanTheWindow(t *testing.T) {
	k, list := putOff(t)
	k.hears()
	checkDo(t, k.g, abort(), fine, firstOf(k, list)...)
	checkWindow(t, k, list)
	var puts []api.Put
	for _, page := range []int{1, 4} {
		for obj := range 3 {
			puts = append(puts, put(page, obj, 9))
		}
	}
	for _, m := range []api.Msg{done(3), fail(3, 61), fail(0, 61)} {
		k, list := putOff(t)
		k.asks(commit(), commits(3, puts...))
		k.seq++
		checkGot(t, k.g, down(k.seq, k.sent, m), failed(api.Errno(m.Copy)), true, firstOf(k, list)...)
		checkWindow(t, k, list)
	}
}

// PUMP: with some under way there is less room for what is said at once.
func TestMoreThanWhatIsLeftOfTheWindow(t *testing.T) {
	for left := range window + 1 {
		k, list := putOff(t)
		k.hears()
		var busyOnes, sent []api.Packet
		for n := range window - left {
			k.seq++
			k.sent++
			c := call(4, 3, true)
			busyOnes = append(busyOnes, up(k.sent, k.seq, busy(4, 3, true)))
			for i := range busyOnes {
				busyOnes[i].Ack = k.seq
			}
			checkSaid(t, k.g, down(k.seq, k.sent-1-n, c), busyOnes...)
		}
		sent = append(sent, busyOnes...)
		for n, m := range list[:left] {
			sent = append(sent, up(k.sent+1+n, k.seq, m))
		}
		checkDo(t, k.g, abort(), fine, sent...)
		checkTick(t, k.g, sent...)
		checkDo(t, k.g, begin(), failed(api.ErrLate))
		for n := range busyOnes {
			sent = append(sent[1:], up(k.sent+1+left+n, k.seq, list[left+n]))
			checkSaid(t, k.g, downBare(k.sent-len(busyOnes)+n+1), sent...)
		}
		checkWindow(t, k, list)
	}
}

// LOST: what was in the outbox and under way isn't said in the next session.
func TestLostWithOutbox(t *testing.T) {
	k, _ := putOff(t)
	k.g.Do(abort())
	checkDo(t, k.g, begin(), failed(api.ErrLate))
	checkLost(t, k.g, api.Packet{Client: client, Epoch: epoch, Server: true}, fine, false)
	for many := range 30 {
		checkLost(t, crowd(t, many), api.Packet{Client: client, Epoch: epoch, Boot: boot + 1, Server: true}, fine, false)
	}
}

// lastNumbers is a session in which so many numbers are left for the client, and more for the server.
func lastNumbers(t *testing.T, left int) *talk {
	t.Helper()
	k := met(t, 2).has(1, 7, 0)
	k.does(begin(), fine)
	for obj := range 3 {
		k.does(read(1, obj), valued(values(1)[obj]))
		k.tells(call(1, obj, true), busy(1, obj, true))
	}
	k.does(abort(), fine, release(1, 1, 1), release(1, 2, 2), release(1, 4, 4))
	p := down(0, 0, call(2, 1, false))
	for k.sent < maxNum-left {
		k.seq++
		p.Seq, p.Ack = k.seq, k.sent
		k.sent++
		if list, _, _ := k.g.Got(p); len(list) != 1 || list[0].Seq != k.sent || list[0].Ack != k.seq {
			t.Fatalf("Got %s%s", packetTold(p), packetsTold(list))
		}
	}
	k.hears()
	return k
}

// PUMP: ErrSeq is its end, too: what has no number any more stays in the outbox, though there is room in the window, till
// the session is lost.
func TestLastNumbers(t *testing.T) {
	k := lastNumbers(t, 3)
	var sent []api.Packet
	for n := 1; n <= 5; n++ {
		k.seq++
		if n <= 3 {
			sent = append(sent, up(k.sent+n, k.seq, release(3, 0, 1)))
		}
		for i := range sent {
			sent[i].Ack = k.seq
		}
		checkSaid(t, k.g, down(k.seq, k.sent, call(3, 0, false)), sent...)
		if n == 3 {
			checkDo(t, k.g, api.Op{Kind: 5}, failed(api.ErrPlace))
		}
	}
	checkDo(t, k.g, begin(), failed(api.ErrLate))
	checkTick(t, k.g, sent...)
	for n := range 3 {
		checkSaid(t, k.g, downBare(k.sent+n), sent[n:]...)
		checkTick(t, k.g, sent[n:]...)
		checkDo(t, k.g, begin(), failed(api.ErrLate))
	}
	for range 3 {
		checkSaid(t, k.g, downBare(maxNum), upBare(k.seq))
		checkTick(t, k.g, upBare(k.seq))
		checkDo(t, k.g, begin(), failed(api.ErrLate))
	}
	k.seq++
	checkSaid(t, k.g, down(k.seq, maxNum, done(1)), upBare(k.seq))
	checkLost(t, k.g, api.Packet{Client: client, Epoch: epoch, Server: true}, fine, false)
}

// badWay is what lies between a guest and the server's end of its session.
type badWay struct {
	n        noise
	g        *guest.Guest
	server   *link.Link
	up, down []api.Packet
	calls    int
	told     [][]byte
}

// step does one thing: the server calls, one of both says again what is under way, or a packet comes, is lost, or doubled.
func (w *badWay) step() {
	switch w.n.below(10) {
	case 0, 1:
		if w.server.Push(bytesOf(crowdCall(w.calls+1))) == api.OK {
			w.calls++
		}
	case 2:
		w.down = append(w.down, w.server.Packets()...)
	case 3:
		w.up = append(w.up, w.g.Tick()...)
	case 4, 5, 6:
		if p, ok := w.take(&w.down); ok {
			list, _, _ := w.g.Got(p)
			w.up = append(w.up, list...)
		}
	default:
		if p, ok := w.take(&w.up); ok {
			w.hear(p)
		}
	}
}

// take is any packet of a list: it is there no more, or comes again, or is lost.
func (w *badWay) take(list *[]api.Packet) (api.Packet, bool) {
	if len(*list) == 0 {
		return api.Packet{}, false
	}
	at := w.n.below(len(*list))
	p := (*list)[at]
	if w.n.below(3) > 0 {
		*list = append((*list)[:at:at], (*list)[at+1:]...)
	}
	// The way isn't to hold ever more.
	if len(*list) > 30 {
		*list = (*list)[10:]
	}
	return p, w.n.below(4) > 0
}

// hear is the server's end; what isn't of its session isn't looked at there.
func (w *badWay) hear(p api.Packet) {
	if body, ok := w.server.Got(p); ok {
		w.told = append(w.told, body)
	}
}

// Whatever is lost, doubled or late: what is said to the server's calls comes there once, and in order.
func TestBadWay(t *testing.T) {
	for seed := range 60 {
		w := &badWay{n: noise(1 + 977*seed), g: guest.New(client, epoch, 2), server: link.New(client, epoch, boot, true)}
		for range 1500 {
			w.step()
		}
		if len(w.told) > w.calls || len(w.told) < 20 {
			t.Fatalf("row %d: %d calls and %d answers", seed, w.calls, len(w.told))
		}
		for range 2*w.calls + 10 {
			for _, p := range w.server.Packets() {
				w.g.Got(p)
			}
			for _, p := range w.g.Tick() {
				w.hear(p)
			}
		}
		want := crowdSaid(0, w.calls, 0)
		if len(w.told) != len(want) {
			t.Fatalf("row %d: %d calls and, in the end, %d answers", seed, w.calls, len(w.told))
		}
		for n := range want {
			if string(w.told[n]) != string(want[n].Body) {
				t.Fatalf("row %d: answer %d is %x, not %x", seed, n, w.told[n], want[n].Body)
			}
		}
		checkDo(t, w.g, begin(), fine)
	}
}
