package link_test

import (
	"bytes"
	"fmt"
	"math"
	"testing"

	"cloakroom/api"
	"cloakroom/link"
)

const (
	maxNum   = 16777215
	window   = 8
	mostBody = 700
)

// edges holds numbers about the edges of what is counted and of 64 bits, and numbers whose lowest bits are those of small ones.
var edges = []int{math.MinInt, math.MinInt + 1, math.MinInt + 3, math.MinInt32, -maxNum, -1<<32 + 1, -256, -3, -2, -1, 0, 1, 2, 3, 4, 5, 7, 8, 9, 255, 256, 257,
	maxNum - 1, maxNum, maxNum + 1, maxNum + 2, 1 << 31, 1 << 32, 1<<32 + 1, 1<<32 + 3, 1<<62 + 1, math.MaxInt - 1, math.MaxInt}

// text is a body of so many bytes that hangs on its number.
func text(number, size int) []byte {
	b := make([]byte, size)
	for k := range b {
		b[k] = byte(number*31 + k*7 + k/256)
	}
	return b
}

// word is a short body that no other number has.
func word(number int) []byte {
	return fmt.Append(nil, "body ", number)
}

// made is the client's end of client 2, epoch 5 and boot 7, with so many bodies handed in of which the first ones came,
// and so many heard.
func made(sent, came, heard int) *link.Link {
	l := link.New(2, 5, 7, false)
	for n := 1; n <= sent; n++ {
		// More than a window go through by what is told to have come as soon as it may be.
		if n-1 <= came {
			l.Got(answer(0, n-1))
		}
		l.Push(word(n))
	}
	l.Got(answer(0, came))
	for n := 1; n <= heard; n++ {
		l.Got(answer(n, 0))
	}
	return l
}

// answer is a packet of the other end of made, with a body that its Seq tells.
func answer(seq, ack int) api.Packet {
	return api.Packet{Client: 2, Epoch: 5, Boot: 7, Seq: seq, Ack: ack, Server: true, Body: word(1000 + seq)}
}

// packetTold is all of a packet as a text: an empty body and none are one.
func packetTold(p api.Packet) string {
	return fmt.Sprintf("client %d epoch %d boot %d seq %d ack %d server %t body %q", p.Client, p.Epoch, p.Boot, p.Seq, p.Ack, p.Server, p.Body)
}

func packetsTold(list []api.Packet) string {
	all := ""
	for _, p := range list {
		all += packetTold(p) + "\n"
	}
	return all
}

// told is all that a link tells without a change.
func told(l *link.Link) string {
	return fmt.Sprintf("sent %d heard %d open %d\n%s", l.Sent(), l.Heard(), l.Open(), packetsTold(l.Packets()))
}

// checkCounts asks for the numbers.
func checkCounts(t *testing.T, l *link.Link, sent, heard, open int) {
	t.Helper()
	if l.Sent() != sent || l.Heard() != heard || l.Open() != open {
		t.Errorf("sent %d, heard %d, open %d, not %d, %d, %d", l.Sent(), l.Heard(), l.Open(), sent, heard, open)
	}
}

// checkPackets asks for the packets, twice: they are sent again as they were.
func checkPackets(t *testing.T, l *link.Link, want ...api.Packet) {
	t.Helper()
	for range 2 {
		if got := packetsTold(l.Packets()); got != packetsTold(want) {
			t.Errorf("packets\n%snot\n%s", got, packetsTold(want))
		}
	}
}

// checkMade asks for all that a link of made tells.
func checkMade(t *testing.T, l *link.Link, sent, came, heard int) {
	t.Helper()
	checkCounts(t, l, sent, heard, sent-came)
	p := api.Packet{Client: 2, Epoch: 5, Boot: 7, Ack: heard}
	if sent == came {
		checkPackets(t, l, p)
		return
	}
	var want []api.Packet
	for n := came + 1; n <= sent; n++ {
		p.Seq, p.Body = n, word(n)
		want = append(want, p)
	}
	checkPackets(t, l, want...)
}

func checkPush(t *testing.T, l *link.Link, body []byte, want api.Errno) {
	t.Helper()
	before := told(l)
	if e := l.Push(body); e != want {
		t.Errorf("Push of %d bytes with %d sent and %d open: %d, not %d", len(body), l.Sent(), l.Open(), e, want)
	}
	if now := told(l); want != api.OK && now != before {
		t.Errorf("behind a Push that was refused: %snot %s", now, before)
	}
}

// checkTold hands a packet in whose body is to be told.
func checkTold(t *testing.T, l *link.Link, p api.Packet) {
	t.Helper()
	if body, ok := l.Got(p); !ok || !bytes.Equal(body, p.Body) {
		t.Errorf("Got of %s: %q, %t", packetTold(p), body, ok)
	}
}

// checkUntold hands a packet in of which nothing is to be told.
func checkUntold(t *testing.T, l *link.Link, p api.Packet) {
	t.Helper()
	if body, ok := l.Got(p); ok || len(body) > 0 {
		t.Errorf("Got of %s: %q, %t", packetTold(p), body, ok)
	}
}

// checkRefused hands a packet in that is to change nothing.
func checkRefused(t *testing.T, l *link.Link, p api.Packet) {
	t.Helper()
	before := told(l)
	checkUntold(t, l, p)
	if now := told(l); now != before {
		t.Errorf("behind %s: %snot %s", packetTold(p), now, before)
	}
}

// The section Errors and the limits.
func TestNumbers(t *testing.T) {
	if api.OK != 0 || api.ErrWindow != 111 || api.ErrSeq != 112 || api.ErrMsg != 101 || api.MaxWindow != window || api.MaxNum != maxNum {
		t.Error(api.OK, api.ErrWindow, api.ErrSeq, api.ErrMsg, api.MaxWindow, api.MaxNum)
	}
}

// The section Types: nothing is sent or heard first, at ends of all clients, epochs and boots.
func TestNew(t *testing.T) {
	for client := range 4 {
		for _, epoch := range []int{0, 1, 256, maxNum - 1, maxNum} {
			for _, boot := range []int{0, 1, 256, maxNum - 1, maxNum} {
				for _, server := range []bool{false, true} {
					l := link.New(client, epoch, boot, server)
					checkCounts(t, l, 0, 0, 0)
					p := api.Packet{Client: client, Epoch: epoch, Boot: boot, Server: server}
					checkPackets(t, l, p)
					checkPush(t, l, []byte("a"), api.OK)
					p.Seq, p.Body = 1, []byte("a")
					checkPackets(t, l, p)
				}
			}
		}
	}
}

// P11.1 Push: bodies of 0, 1 and 700 bytes, and of more.
func TestPushOfBodies(t *testing.T) {
	for _, body := range [][]byte{nil, {}, make([]byte, 0, 900), {0}, {255}, text(1, 2), text(2, mostBody-1), text(3, mostBody), make([]byte, mostBody, 900)} {
		l := link.New(2, 5, 7, false)
		checkPush(t, l, body, api.OK)
		checkCounts(t, l, 1, 0, 1)
		checkPackets(t, l, api.Packet{Client: 2, Epoch: 5, Boot: 7, Seq: 1, Body: body})
	}
	for _, size := range []int{mostBody + 1, mostBody + 2, 767, 768, 1024, 1 << 16, 1<<16 + 700, 1 << 20} {
		l := link.New(2, 5, 7, true)
		checkPush(t, l, text(1, size), api.ErrMsg)
		checkCounts(t, l, 0, 0, 0)
		checkPackets(t, l, api.Packet{Client: 2, Epoch: 5, Boot: 7, Server: true})
	}
}

// P11.1 Push, Open, Sent: up to the eighth body, not the ninth, and again as soon as one came.
func TestPushUpToTheWindow(t *testing.T) {
	l := link.New(2, 5, 7, false)
	for n := 1; n <= window; n++ {
		checkPush(t, l, word(n), api.OK)
		checkMade(t, l, n, 0, 0)
	}
	for range 3 {
		checkPush(t, l, word(9), api.ErrWindow)
		checkPush(t, l, nil, api.ErrWindow)
		checkPush(t, l, text(9, mostBody), api.ErrWindow)
		checkMade(t, l, 8, 0, 0)
	}
	checkUntold(t, l, answer(0, 1))
	checkMade(t, l, 8, 1, 0)
	checkPush(t, l, word(9), api.OK)
	checkMade(t, l, 9, 1, 0)
	checkPush(t, l, word(10), api.ErrWindow)
	checkUntold(t, l, answer(0, 9))
	checkMade(t, l, 9, 9, 0)
	for n := 10; n <= 17; n++ {
		checkPush(t, l, word(n), api.OK)
		checkMade(t, l, n, 9, 0)
	}
	checkPush(t, l, word(18), api.ErrWindow)
	checkMade(t, l, 17, 9, 0)
}

// P11.1 Push: a body that is too long is told first, be the window full or not; a refused one takes no number.
func TestPushOfALongBodyFirst(t *testing.T) {
	for sent := range window + 1 {
		l := made(sent, 0, 3)
		checkPush(t, l, text(1, mostBody+1), api.ErrMsg)
		checkPush(t, l, text(1, 1<<16), api.ErrMsg)
		checkMade(t, l, sent, 0, 3)
		if sent == window {
			checkPush(t, l, text(1, mostBody), api.ErrWindow)
			checkMade(t, l, sent, 0, 3)
			continue
		}
		checkPush(t, l, word(sent+1), api.OK)
		checkMade(t, l, sent+1, 0, 3)
	}
}

// lastNumbers is the client's end of client 2, epoch 5 and boot 7 behind so many bodies that all came.
func lastNumbers(sent int) *link.Link {
	l := link.New(2, 5, 7, false)
	for n := 1; n <= sent; n++ {
		l.Push(nil)
		l.Got(api.Packet{Client: 2, Epoch: 5, Boot: 7, Ack: n, Server: true})
	}
	return l
}

// P11.1 Push: the last number is MaxNum; that there are no more is told behind a body that is too long, and ahead of a
// window that is full.
func TestPushOfTheLastNumber(t *testing.T) {
	l := lastNumbers(maxNum - window)
	checkMade(t, l, maxNum-window, maxNum-window, 0)
	for n := maxNum - window + 1; n <= maxNum; n++ {
		checkPush(t, l, word(n), api.OK)
		checkMade(t, l, n, maxNum-window, 0)
	}
	for came := maxNum - window; came <= maxNum; came++ {
		checkUntold(t, l, answer(0, came))
		checkMade(t, l, maxNum, came, 0)
		checkPush(t, l, nil, api.ErrSeq)
		checkPush(t, l, word(1), api.ErrSeq)
		checkPush(t, l, text(1, mostBody), api.ErrSeq)
		checkPush(t, l, text(1, mostBody+1), api.ErrMsg)
		checkRefused(t, l, answer(1, maxNum+1))
		checkMade(t, l, maxNum, came, 0)
	}
	checkTold(t, l, answer(1, maxNum))
	checkMade(t, l, maxNum, maxNum, 1)
}

// P11.1 Push: ErrWindow still where a number is left.
func TestPushAheadOfTheLastNumber(t *testing.T) {
	l := lastNumbers(maxNum - window - 1)
	for n := maxNum - window; n < maxNum; n++ {
		checkPush(t, l, word(n), api.OK)
	}
	checkPush(t, l, word(maxNum), api.ErrWindow)
	checkMade(t, l, maxNum-1, maxNum-window-1, 0)
	checkUntold(t, l, answer(0, maxNum-window))
	checkPush(t, l, word(maxNum), api.OK)
	checkPush(t, l, word(maxNum), api.ErrSeq)
	checkMade(t, l, maxNum, maxNum-window, 0)
}

// P11.1 Heard and P11.3: up to MaxNum, and, as the promise's words are, also what is one more than that.
func TestGotUpToTheLastNumber(t *testing.T) {
	l := made(3, 1, 0)
	p := api.Packet{Client: 2, Epoch: 5, Boot: 7, Ack: 1, Server: true}
	for n := 1; n < maxNum; n++ {
		p.Seq = n
		if _, ok := l.Got(p); !ok {
			t.Fatalf("Got of %s", packetTold(p))
		}
	}
	checkMade(t, l, 3, 1, maxNum-1)
	checkRefused(t, l, answer(maxNum-1, 1))
	checkRefused(t, l, answer(maxNum+1, 1))
	checkTold(t, l, answer(maxNum, 2))
	checkMade(t, l, 3, 2, maxNum)
	for _, seq := range []int{maxNum, 0, 1, maxNum - 1, maxNum + 2} {
		checkRefused(t, l, answer(seq, 2))
	}
	checkTold(t, l, answer(maxNum+1, 2))
	checkMade(t, l, 3, 2, maxNum+1)
}

// P11.2 Packets: of none, and of one to eight bodies, ahead of some that came and behind them, and with some heard.
func TestPackets(t *testing.T) {
	for _, heard := range []int{0, 1, 2, 9, 300} {
		for sent := range 3 * window {
			for came := max(sent-window, 0); came <= sent; came++ {
				checkMade(t, made(sent, came, heard), sent, came, heard)
			}
		}
	}
}

// P11.2 Packets: written out, at both ends.
func TestPacketsWrittenOut(t *testing.T) {
	a, b := link.New(3, 9, 4, false), link.New(3, 9, 4, true)
	checkPackets(t, a, api.Packet{Client: 3, Epoch: 9, Boot: 4})
	checkPackets(t, b, api.Packet{Client: 3, Epoch: 9, Boot: 4, Server: true})
	for _, body := range []string{"x", "", "x"} {
		checkPush(t, a, []byte(body), api.OK)
	}
	first := api.Packet{Client: 3, Epoch: 9, Boot: 4, Seq: 1, Body: []byte("x")}
	second := api.Packet{Client: 3, Epoch: 9, Boot: 4, Seq: 2}
	third := api.Packet{Client: 3, Epoch: 9, Boot: 4, Seq: 3, Body: []byte("x")}
	checkPackets(t, a, first, second, third)
	checkTold(t, b, first)
	checkTold(t, b, second)
	checkPackets(t, b, api.Packet{Client: 3, Epoch: 9, Boot: 4, Ack: 2, Server: true})
	checkPush(t, b, []byte("y"), api.OK)
	back := api.Packet{Client: 3, Epoch: 9, Boot: 4, Seq: 1, Ack: 2, Server: true, Body: []byte("y")}
	checkPackets(t, b, back)
	checkTold(t, a, back)
	third.Ack = 1
	checkPackets(t, a, third)
	checkTold(t, b, third)
	checkPackets(t, b, api.Packet{Client: 3, Epoch: 9, Boot: 4, Ack: 3, Server: true})
	checkUntold(t, a, b.Packets()[0])
	checkPackets(t, a, api.Packet{Client: 3, Epoch: 9, Boot: 4, Ack: 1})
}

// P11.2 Packets: their Ack is what is heard now, also of bodies that were sent before.
func TestPacketsTellWhatIsHeard(t *testing.T) {
	l := made(4, 1, 0)
	for n := 1; n <= 20; n++ {
		checkTold(t, l, answer(n, 1))
		checkMade(t, l, 4, 1, n)
	}
}

// P11.3 Got: a packet whose Client, Epoch, Boot or Server isn't the other end's, each alone, changes nothing: with a Seq
// that is the next, and an Ack that would tell that bodies came.
func TestGotOfOtherSessions(t *testing.T) {
	for _, came := range []int{0, 2} {
		l := made(5, came, 3)
		for _, seq := range []int{0, 3, 4, 5} {
			for _, ack := range []int{-1, 0, 2, 3, 5, 6} {
				right := answer(seq, ack)
				for _, n := range edges {
					p := right
					if p.Client = n; n != 2 {
						checkRefused(t, l, p)
					}
					p = right
					if p.Epoch = n; n != 5 {
						checkRefused(t, l, p)
					}
					p = right
					if p.Boot = n; n != 7 {
						checkRefused(t, l, p)
					}
				}
				p := right
				p.Server = false
				checkRefused(t, l, p)
			}
		}
		checkTold(t, l, answer(4, 5))
		checkMade(t, l, 5, 5, 4)
	}
}

// P11.3 Got: the same at the server's end, and with what a client's numbers are at their edges.
func TestGotAtTheServersEnd(t *testing.T) {
	for _, epoch := range []int{0, 1, maxNum} {
		for _, boot := range []int{0, 1, maxNum} {
			for client := range 4 {
				l := link.New(client, epoch, boot, true)
				l.Push([]byte("to the client"))
				right := api.Packet{Client: client, Epoch: epoch, Boot: boot, Seq: 1, Ack: 1, Body: []byte("to the server")}
				for _, d := range []int{-256, -1, 1, 256, 1 << 32} {
					p := right
					p.Client += d
					checkRefused(t, l, p)
					p = right
					p.Epoch += d
					checkRefused(t, l, p)
					p = right
					p.Boot += d
					checkRefused(t, l, p)
				}
				p := right
				p.Server = true
				checkRefused(t, l, p)
				p = right
				p.Ack = 2
				checkRefused(t, l, p)
				checkTold(t, l, right)
				checkCounts(t, l, 1, 1, 0)
			}
		}
	}
}

// P11.3 Got: an Ack above SENT changes nothing, though Seq is the next; and one at SENT does.
func TestGotOfAnAckAboveSent(t *testing.T) {
	for sent := range 2 * window {
		for came := max(sent-window, 0); came <= sent; came++ {
			l := made(sent, came, 2)
			for _, ack := range append([]int{sent + 1, sent + 2, sent + window, sent + 256}, edges...) {
				if ack <= sent {
					continue
				}
				for _, seq := range []int{0, 2, 3, 4} {
					checkRefused(t, l, answer(seq, ack))
				}
			}
			checkMade(t, l, sent, came, 2)
			checkTold(t, l, answer(3, sent))
			checkMade(t, l, sent, sent, 3)
		}
	}
}

// P11.3 Got: an Ack below, at and above what is known to have come, at all edges; with a Seq that is the next and without.
func TestGotOfAcks(t *testing.T) {
	for sent := range 2*window + 2 {
		for came := max(sent-window, 0); came <= sent; came++ {
			for _, ack := range append([]int{came - 1, came, came + 1, sent - 1, sent}, edges...) {
				if ack > sent {
					continue
				}
				l := made(sent, came, 2)
				checkUntold(t, l, answer(0, ack))
				checkMade(t, l, sent, max(came, ack), 2)
				l = made(sent, came, 2)
				checkTold(t, l, answer(3, ack))
				checkMade(t, l, sent, max(came, ack), 3)
			}
		}
	}
}

// P11.3 Got: all acks of a window one behind another, rising, falling and the same again.
func TestGotOfAcksInOrders(t *testing.T) {
	for first := range window + 1 {
		for second := range window + 1 {
			for third := range window + 1 {
				l := made(window, 0, 0)
				came := 0
				for _, ack := range []int{first, second, third} {
					came = max(came, ack)
					checkUntold(t, l, answer(0, ack))
					checkMade(t, l, window, came, 0)
				}
			}
		}
	}
}

// P11.3 Got: of each Seq: the one that is one more than HEARD alone is told.
func TestGotOfSeqs(t *testing.T) {
	for _, heard := range []int{0, 1, 2, 7, 8, 9, 255, 256} {
		for _, seq := range append([]int{heard - 1, heard, heard + 1, heard + 2, heard + window, -heard, -heard - 1, heard + 1 + 1<<32, heard + 1 + 1<<24}, edges...) {
			l := made(3, 1, heard)
			if seq == heard+1 {
				checkTold(t, l, answer(seq, 1))
				checkMade(t, l, 3, 1, heard+1)
			} else {
				checkRefused(t, l, answer(seq, 1))
			}
		}
	}
}

// P11.3 Got: a Seq that isn't the next, but an Ack that tells that bodies came: that is known then, though nothing is told.
func TestGotOfAnAckWithoutABody(t *testing.T) {
	for _, seq := range append([]int{1, 2, 3, 5}, edges...) {
		if seq == 4 {
			continue
		}
		for ack := 2; ack <= 6; ack++ {
			l := made(6, 1, 3)
			checkUntold(t, l, answer(seq, ack))
			checkMade(t, l, 6, ack, 3)
			checkUntold(t, l, answer(seq, ack))
			checkMade(t, l, 6, ack, 3)
			checkTold(t, l, answer(4, 1))
			checkMade(t, l, 6, ack, 4)
		}
	}
}

// P11.3 Got: bodies of all sizes are told as they are, empty ones too; a packet with Seq 0 tells none, whatever it has.
func TestGotOfBodies(t *testing.T) {
	l := link.New(2, 5, 7, false)
	seq := 0
	for _, body := range [][]byte{nil, {}, {0}, text(1, 2), text(2, mostBody-1), text(3, mostBody), make([]byte, 0, 50), text(3, mostBody)} {
		p := answer(0, 0)
		p.Body = body
		checkRefused(t, l, p)
		seq++
		p.Seq = seq
		checkTold(t, l, p)
		checkCounts(t, l, 0, seq, 0)
		checkRefused(t, l, p)
	}
}

// The chapter's example: a packet that comes twice is told once.
func TestExample(t *testing.T) {
	a, b := link.New(0, 1, 1, false), link.New(0, 1, 1, true)
	checkPush(t, a, []byte("once"), api.OK)
	p := a.Packets()[0]
	checkTold(t, b, p)
	checkUntold(t, b, p)
	checkCounts(t, b, 0, 1, 0)
	checkUntold(t, b, p)
	checkCounts(t, b, 0, 1, 0)
}
