package msg_test

import (
	"bytes"
	"fmt"
	"slices"
	"testing"

	"cloakroom/api"
	"cloakroom/msg"
)

const mostBody = 700

// withSum is bytes with their sum, worked out bit by bit as chapter 3 tells it.
func withSum(b []byte) []byte {
	sum := uint16(0xFFFF)
	for k := range 8 * len(b) {
		bit := uint16(b[k/8]>>(k%8)) & 1
		carry := sum&1 ^ bit
		sum = sum>>1 ^ carry*0x8408
	}
	return append(bytes.Clone(b), byte(^sum), byte(^sum>>8))
}

// front is the six numbers of a packet, whatever they are.
func front(client, epoch, boot, seq, ack, server int) []byte {
	return slices.Concat(num(client), num(epoch), num(boot), num(seq), num(ack), num(server))
}

// frame is a packet's frame as the chapter tells it, be it right or not.
func frame(p api.Packet) []byte {
	server := 0
	if p.Server {
		server = 1
	}
	return withSum(append(front(p.Client, p.Epoch, p.Boot, p.Seq, p.Ack, server), p.Body...))
}

// text is so many bytes, each unlike the one ahead of it.
func text(size int) []byte {
	b := make([]byte, size)
	for k := range b {
		b[k] = byte(k*7 + k/256)
	}
	return b
}

// packet is an ordinary one, with a body of so many bytes.
func packet(size int) api.Packet {
	return api.Packet{Client: 2, Epoch: 7, Boot: 300, Seq: 70000, Ack: 5, Server: true, Body: text(size)}
}

// packets are some that can be, each part at its edges.
func packets() []api.Packet {
	var l []api.Packet
	for _, n := range []int{0, 1, 255, 256, 65535, 65536, maxNum} {
		for _, size := range []int{0, 1, 2, 24} {
			p := packet(size)
			l = append(l, p)
			p.Epoch = n
			l = append(l, p)
			p.Boot = n
			l = append(l, p)
			p.Seq = n
			l = append(l, p)
			p.Ack = n
			l = append(l, p)
			p.Client, p.Server = n%4, n%2 == 0
			l = append(l, p)
		}
	}
	return append(l, api.Packet{}, api.Packet{Client: 3}, api.Packet{Server: true}, packet(699), packet(mostBody),
		api.Packet{Client: 3, Epoch: maxNum, Boot: maxNum, Seq: maxNum, Ack: maxNum, Server: true, Body: bytes.Repeat([]byte{255}, mostBody)})
}

// packetTold is a packet as text; a nil and an empty Body are one.
func packetTold(p api.Packet) string {
	return fmt.Sprintf("[%d %d %d %d %d %t %x]", p.Client, p.Epoch, p.Boot, p.Seq, p.Ack, p.Server, p.Body)
}

func checkFrame(t *testing.T, p api.Packet, want []byte) {
	t.Helper()
	if got, e := msg.Frame(p); e != api.OK || !bytes.Equal(got, want) {
		t.Errorf("Frame of %s: %x, %d, not %x", packetTold(p), got, e, want)
	}
}

func checkNoFrame(t *testing.T, p api.Packet) {
	t.Helper()
	if got, e := msg.Frame(p); e != 101 || len(got) != 0 {
		t.Errorf("Frame of %.100s: %x, %d", packetTold(p), got, e)
	}
}

func checkOpen(t *testing.T, b []byte, want api.Packet) {
	t.Helper()
	if got, e := msg.Open(b); e != api.OK || packetTold(got) != packetTold(want) {
		t.Errorf("Open of %x: %s, %d, not %s", b, packetTold(got), e, packetTold(want))
	}
}

func checkNoPacket(t *testing.T, b []byte) {
	t.Helper()
	if got, e := msg.Open(b); e != 101 || packetTold(got) != packetTold(api.Packet{}) {
		t.Errorf("Open of %d bytes, %x: %s, %d", len(b), b[:min(len(b), 800)], packetTold(got), e)
	}
}

// checkOpenBeside asks for the packet that bytes with a right sum behind them are, if they are one.
func checkOpenBeside(t *testing.T, b []byte) {
	t.Helper()
	at := func(k int) int { return int(b[k])<<16 | int(b[k+1])<<8 | int(b[k+2]) }
	if len(b) < 18 || len(b) > 18+mostBody || at(0) > 3 || at(15) > 1 {
		checkNoPacket(t, withSum(b))
		return
	}
	checkOpen(t, withSum(b), api.Packet{Client: at(0), Epoch: at(3), Boot: at(6), Seq: at(9), Ack: at(12), Server: at(15) == 1, Body: b[18:]})
}

// checkBoth asks for a packet's frame, there and back, or, where it can't be, for neither.
func checkBoth(t *testing.T, p api.Packet, can bool) {
	t.Helper()
	if can {
		checkFrame(t, p, frame(p))
		checkOpen(t, frame(p), p)
	} else {
		checkNoFrame(t, p)
	}
}

// P10.3: frames that are written out, their sums worked out bit by bit.
func TestFrameWrittenOut(t *testing.T) {
	p := api.Packet{Client: 3, Epoch: 1, Boot: 258, Seq: 66051, Ack: maxNum, Server: true, Body: []byte("hi")}
	want := withSum([]byte{0, 0, 3, 0, 0, 1, 0, 1, 2, 1, 2, 3, 255, 255, 255, 0, 0, 1, 'h', 'i'})
	checkFrame(t, p, want)
	checkOpen(t, want, p)
	want = withSum(make([]byte, 18))
	checkFrame(t, api.Packet{}, want)
	checkOpen(t, want, api.Packet{})
	if sum := withSum([]byte("123456789")); sum[9] != 0x6E || sum[10] != 0x90 {
		t.Errorf("the sum of the nine digits: %x", sum)
	}
}

// P10.3: packets of all kinds that can be, there and back, and how many bytes their frames are.
func TestFrameAndOpen(t *testing.T) {
	for _, p := range packets() {
		checkBoth(t, p, true)
		if b, _ := msg.Frame(p); len(b) != 20+len(p.Body) {
			t.Errorf("the frame of %s has %d bytes", packetTold(p), len(b))
		}
	}
	for _, m := range samples() {
		p := packet(0)
		p.Body = form(m)
		checkBoth(t, p, true)
	}
}

// P10.3: each number of a packet at all edges, a client's and the Server's.
func TestFrameOfEachNumber(t *testing.T) {
	for _, n := range edges {
		for _, server := range []bool{false, true} {
			for _, size := range []int{0, 3, mostBody} {
				num := n >= 0 && n <= maxNum
				p := packet(size)
				p.Server = server
				p.Client = n
				checkBoth(t, p, n >= 0 && n <= 3)
				p.Client, p.Epoch = 1, n
				checkBoth(t, p, num)
				p.Epoch, p.Boot = 0, n
				checkBoth(t, p, num)
				p.Boot, p.Seq = 0, n
				checkBoth(t, p, num)
				p.Seq, p.Ack = 0, n
				checkBoth(t, p, num)
			}
		}
	}
}

// P10.3: a Body of none, 700 and 701 bytes, nil and empty.
func TestFrameOfBodies(t *testing.T) {
	checkBoth(t, api.Packet{Body: nil}, true)
	checkBoth(t, api.Packet{Body: []byte{}}, true)
	checkBoth(t, api.Packet{Body: make([]byte, 0, 2000)}, true)
	for size := 690; size <= 710; size++ {
		checkBoth(t, packet(size), size <= mostBody)
		if size > mostBody {
			checkNoPacket(t, frame(packet(size)))
		}
	}
	for _, size := range []int{718, 719, 720, 1000, 65536, 1 << 20} {
		checkNoFrame(t, packet(size))
		checkNoPacket(t, frame(packet(size)))
	}
}

// P10.3 Open: nothing, fewer bytes and more.
func TestOpenOfOtherSizes(t *testing.T) {
	checkNoPacket(t, nil)
	checkNoPacket(t, []byte{})
	checkNoPacket(t, make([]byte, 0, 50))
	for _, p := range packets() {
		b := frame(p)
		for size := range len(b) {
			checkNoPacket(t, b[:size])
		}
		checkNoPacket(t, b[1:])
		for _, more := range []byte{0, 1, 255} {
			checkNoPacket(t, append(bytes.Clone(b), more))
		}
	}
}

// P10.3 Open: a right sum behind fewer bytes than a packet has, and behind as many and more.
func TestOpenOfFramesOfOtherSizes(t *testing.T) {
	whole := append(front(1, 2, 3, 4, 5, 1), text(10)...)
	for size := range len(whole) + 1 {
		b := withSum(whole[:size])
		if size < 18 {
			checkNoPacket(t, b)
			checkNoPacket(t, withSum(make([]byte, size)))
			continue
		}
		checkOpen(t, b, api.Packet{Client: 1, Epoch: 2, Boot: 3, Seq: 4, Ack: 5, Server: true, Body: text(size - 18)})
	}
}

// P10.3 Open: another sum, each of them, and each bit turned.
func TestOpenOfOtherSums(t *testing.T) {
	p := packet(5)
	whole := frame(p)
	size := len(whole) - 2
	for sum := range 1 << 16 {
		b := append(bytes.Clone(whole[:size]), byte(sum), byte(sum>>8))
		if bytes.Equal(b, whole) {
			checkOpen(t, b, p)
		} else {
			checkNoPacket(t, b)
		}
	}
	for _, p := range packets() {
		b := frame(p)
		for bit := range 8 * len(b) {
			b[bit/8] ^= 1 << (bit % 8)
			checkNoPacket(t, b)
			b[bit/8] ^= 1 << (bit % 8)
		}
	}
}

// P10.3 Open: a right sum, and a packet that can't be: its Client, or a Server that is neither 0 nor 1.
func TestOpenOfPacketsThatCannotBe(t *testing.T) {
	for _, body := range [][]byte{nil, text(1), text(mostBody)} {
		for _, n := range []int{0, 1, 2, 3, 4, 5, 255, 256, 257, 65536, 65537, maxNum - 1, maxNum} {
			b := withSum(append(front(n, 2, 3, 4, 5, 1), body...))
			if n <= 3 {
				checkOpen(t, b, api.Packet{Client: n, Epoch: 2, Boot: 3, Seq: 4, Ack: 5, Server: true, Body: body})
			} else {
				checkNoPacket(t, b)
			}
			b = withSum(append(front(1, 2, 3, 4, 5, n), body...))
			if n <= 1 {
				checkOpen(t, b, api.Packet{Client: 1, Epoch: 2, Boot: 3, Seq: 4, Ack: 5, Server: n == 1, Body: body})
			} else {
				checkNoPacket(t, b)
			}
		}
	}
}
