package net_test

import (
	"fmt"
	"math"
	"slices"
	"strings"
	"testing"

	"cloakroom/api"
	"cloakroom/crc"
	"cloakroom/net"
)

const (
	lanes = 8
	most  = 200
)

// told is all that can be known of a frame.
type told struct {
	text   string
	spoilt bool
}

func (f told) String() string {
	if f.spoilt {
		return fmt.Sprintf("%.20q spoilt", f.text)
	}
	return fmt.Sprintf("%.20q", f.text)
}

// content is all that can be known of a net.
type content [lanes][]told

func (c content) same(other content) bool {
	for lane := range lanes {
		if !slices.Equal(c[lane], other[lane]) {
			return false
		}
	}
	return true
}

// good are frames that are not SPOILT, in their order.
func good(texts ...string) []told {
	var list []told
	for _, text := range texts {
		list = append(list, told{text: text})
	}
	return list
}

// drain takes all that is on its way. Whether a frame is SPOILT is told by a Spoil ahead of its Take, which is turned
// back; one without bytes never is.
func drain(n *net.Net) content {
	var all content
	for lane := range lanes {
		for n.Len(lane) > 0 {
			turned := n.Spoil(lane, 0, 0, 1)
			b, ok := n.Take(lane, 0)
			if !ok {
				break
			}
			if turned {
				b = crc.Burst(b, 0, 1)
			}
			all[lane] = append(all[lane], told{string(b), !turned && len(b) > 0})
		}
	}
	return all
}

// checkAll takes all that is on its way.
func checkAll(t *testing.T, n *net.Net, want content) {
	t.Helper()
	for lane := range lanes {
		checkLen(t, n, lane, len(want[lane]))
	}
	if got := drain(n); !got.same(want) {
		t.Errorf("on its way is %v, not %v", got, want)
	}
}

// checkLane takes all that is on its way, which is on one lane alone.
func checkLane(t *testing.T, n *net.Net, lane int, want []told) {
	t.Helper()
	var all content
	all[lane] = want
	checkAll(t, n, all)
}

func checkLen(t *testing.T, n *net.Net, lane, want int) {
	t.Helper()
	if many := n.Len(lane); many != want {
		t.Errorf("lane %d has %d, not %d", lane, many, want)
	}
}

func checkPut(t *testing.T, n *net.Net, lane int, texts ...string) {
	t.Helper()
	for _, text := range texts {
		if !n.Put(lane, []byte(text)) {
			t.Errorf("Put of %.20q on lane %d is refused", text, lane)
		}
	}
}

func checkTake(t *testing.T, n *net.Net, lane, i int, want string) {
	t.Helper()
	many := n.Len(lane)
	if b, ok := n.Take(lane, i); !ok || string(b) != want {
		t.Errorf("Take %d %d: %.20q %t, not %.20q", lane, i, b, ok, want)
	}
	checkLen(t, n, lane, many-1)
}

func checkDouble(t *testing.T, n *net.Net, lane, i int) {
	t.Helper()
	many := n.Len(lane)
	if !n.Double(lane, i) {
		t.Errorf("Double %d %d is refused", lane, i)
	}
	checkLen(t, n, lane, many+1)
}

func checkLate(t *testing.T, n *net.Net, lane, i int) {
	t.Helper()
	many := n.Len(lane)
	if !n.Late(lane, i) {
		t.Errorf("Late %d %d is refused", lane, i)
	}
	checkLen(t, n, lane, many)
}

func checkSpoil(t *testing.T, n *net.Net, lane, i, at int, mask uint16, want bool) {
	t.Helper()
	many := n.Len(lane)
	if ok := n.Spoil(lane, i, at, mask); ok != want {
		t.Errorf("Spoil %d %d %d %04x: %t", lane, i, at, mask, ok)
	}
	checkLen(t, n, lane, many)
}

// names are so many frames that can be told from each other.
func names(many int) []string {
	var list []string
	for k := range many {
		list = append(list, fmt.Sprint("frame ", k))
	}
	return list
}

// filled is a net with so many frames on one lane.
func filled(t *testing.T, lane, many int) *net.Net {
	t.Helper()
	n := net.New()
	checkPut(t, n, lane, names(many)...)
	return n
}

// busy is a net with frames on all lanes, some of them SPOILT: none on the first one, as many as can be on the last.
func busy(t *testing.T) (*net.Net, content) {
	t.Helper()
	n := net.New()
	var all content
	for lane := range lanes {
		many := 2 * lane
		if lane == lanes-1 {
			many = most
		}
		for k := range many {
			text := fmt.Sprint("lane ", lane, " frame ", k)
			checkPut(t, n, lane, text)
			f := told{text: text}
			if k%3 == 1 {
				checkSpoil(t, n, lane, k, 2, 5, true)
				f = told{string(crc.Burst([]byte(text), 2, 5)), true}
			}
			all[lane] = append(all[lane], f)
		}
	}
	return n, all
}

// wrong are numbers below 0, and those from many on: such about the edges of 64 bits among them, and such as have the
// lowest bits of those that can be.
func wrong(many int) []int {
	return []int{math.MinInt, math.MinInt + 1, math.MinInt + 2, math.MinInt32, -1<<32 + 1, -1 << 32, -256, -200, -8, -7, -2, -1,
		many, many + 1, many + 2, 2*many + 200, 1 << 16, 1 << 31, 1 << 32, 1<<32 + 1, 1 << 62, 1<<63 - 8, math.MaxInt - 1, math.MaxInt}
}

// The limits.
func TestNumbers(t *testing.T) {
	if api.MaxLane != most || 2*api.MaxClients != lanes {
		t.Error(api.MaxLane, api.MaxClients)
	}
}

// The chapter's example.
func TestExample(t *testing.T) {
	for lane := range lanes {
		n := net.New()
		checkPut(t, n, lane, "one", "two")
		checkLate(t, n, lane, 0)
		checkTake(t, n, lane, 0, "two")
		checkTake(t, n, lane, 0, "one")
		checkLane(t, n, lane, nil)
	}
}

// P20.1, P20.2: a new net has nothing on any lane.
func TestNew(t *testing.T) {
	n := net.New()
	for lane := range lanes {
		checkLen(t, n, lane, 0)
		for _, i := range append(wrong(1), 0) {
			checkNothing(t, n, lane, i)
		}
	}
	checkAll(t, n, content{})
	for lane := range lanes {
		checkPut(t, n, lane, "first")
		checkTake(t, n, lane, 0, "first")
	}
}

// checkNothing asks for a frame that isn't there, by all calls.
func checkNothing(t *testing.T, n *net.Net, lane, i int) {
	t.Helper()
	if b, ok := n.Take(lane, i); ok || len(b) != 0 {
		t.Errorf("Take %d %d: %.20q %t", lane, i, b, ok)
	}
	if n.Double(lane, i) {
		t.Errorf("Double %d %d isn't refused", lane, i)
	}
	if n.Late(lane, i) {
		t.Errorf("Late %d %d isn't refused", lane, i)
	}
	for _, mask := range []uint16{0, 1, 0x8000, 0xffff} {
		for _, at := range []int{math.MinInt, -1, 0, 1, math.MaxInt} {
			if n.Spoil(lane, i, at, mask) {
				t.Errorf("Spoil %d %d %d %04x isn't refused", lane, i, at, mask)
			}
		}
	}
}

// P20.1 Lane: two for each client, what it sends and what is sent to it.
func TestLane(t *testing.T) {
	for client, want := range [][2]int{{0, 1}, {2, 3}, {4, 5}, {6, 7}} {
		if lane := net.Lane(client, false); lane != want[0] {
			t.Errorf("the lane of client %d is %d", client, lane)
		}
		if lane := net.Lane(client, true); lane != want[1] {
			t.Errorf("the server's lane to client %d is %d", client, lane)
		}
	}
}

// P20.1 Lane: of who is no client there is none.
func TestLaneOfNobody(t *testing.T) {
	for _, client := range wrong(lanes / 2) {
		for _, server := range []bool{false, true} {
			if lane := net.Lane(client, server); lane != -1 {
				t.Errorf("the lane of client %d, %t, is %d", client, server, lane)
			}
		}
	}
}

// P20.1, P20.2: where there is no such lane, nothing is put, nothing is there, and nothing changes on any lane.
func TestNoLane(t *testing.T) {
	for _, lane := range wrong(lanes) {
		n, all := busy(t)
		for _, text := range []string{"", "a", "frame"} {
			if n.Put(lane, []byte(text)) {
				t.Errorf("Put on lane %d isn't refused", lane)
			}
		}
		checkLen(t, n, lane, 0)
		for _, i := range append(wrong(1), 0, 1, most-1, most) {
			checkNothing(t, n, lane, i)
		}
		checkAll(t, n, all)

		empty := net.New()
		if empty.Put(lane, []byte("a")) {
			t.Errorf("Put on lane %d of a new net isn't refused", lane)
		}
		checkNothing(t, empty, lane, 0)
		checkLen(t, empty, lane, 0)
		checkAll(t, empty, content{})
	}
}

// P20.1 Put: a frame is on that lane alone as it was given, be it short or long, and whatever bytes it has.
func TestPut(t *testing.T) {
	bytes := make([]byte, 256)
	for k := range bytes {
		bytes[k] = byte(k)
	}
	texts := []string{"a", "", "\x00", "\xff", "\x00\x00\x00", string(bytes), strings.Repeat("long", 300), strings.Repeat("longer", 1<<17)}
	for lane := range lanes {
		for _, text := range texts {
			n := net.New()
			checkPut(t, n, lane, text)
			checkLane(t, n, lane, good(text))
			checkPut(t, n, lane, text)
			checkTake(t, n, lane, 0, text)
		}
		n := net.New()
		checkPut(t, n, lane, texts...)
		checkLane(t, n, lane, good(texts...))
	}
}

// P20.1 Put: one without bytes is a frame, too: nil and an empty list are one.
func TestPutOfNone(t *testing.T) {
	n := net.New()
	for k, none := range [][]byte{nil, {}, make([]byte, 0, 50)} {
		if !n.Put(3, none) {
			t.Error("Put of none is refused")
		}
		checkLen(t, n, 3, k+1)
	}
	checkLane(t, n, 3, good("", "", ""))
}

// P20.1 Put: behind the others, also where the same bytes are there, and where some were taken.
func TestPutIsBehind(t *testing.T) {
	n := net.New()
	checkPut(t, n, 6, "b", "a", "b", "c", "a", "")
	checkLane(t, n, 6, good("b", "a", "b", "c", "a", ""))
	checkPut(t, n, 6, "d", "e", "f")
	checkTake(t, n, 6, 1, "e")
	checkPut(t, n, 6, "g")
	checkTake(t, n, 6, 0, "d")
	checkPut(t, n, 6, "a")
	checkLane(t, n, 6, good("f", "g", "a"))
}

// P20.1 Len: one more with each Put, one fewer with each Take, and asking changes nothing.
func TestLen(t *testing.T) {
	n := net.New()
	for k, text := range names(most) {
		checkLen(t, n, 5, k)
		checkLen(t, n, 5, k)
		checkPut(t, n, 5, text)
		checkLen(t, n, 4, 0)
		checkLen(t, n, 6, 0)
	}
	for k, text := range names(most) {
		checkLen(t, n, 5, most-k)
		checkTake(t, n, 5, 0, text)
	}
	checkLen(t, n, 5, 0)
}

// P20.1 Put, MaxLane: 200 have room on a lane; one more is refused, and nothing changes; the other lanes have room still.
func TestFull(t *testing.T) {
	for lane := range lanes {
		n := filled(t, lane, most-1)
		checkLen(t, n, lane, most-1)
		checkPut(t, n, lane, "the last")
		checkLen(t, n, lane, most)
		for _, text := range []string{"", "one more", strings.Repeat("x", 5000)} {
			if n.Put(lane, []byte(text)) {
				t.Errorf("lane %d takes one more", lane)
			}
			checkLen(t, n, lane, most)
		}
		var all content
		for other := range lanes {
			all[other] = good("of another lane")
			if other != lane {
				checkPut(t, n, other, "of another lane")
			}
		}
		all[lane] = good(append(names(most-1), "the last")...)
		checkAll(t, n, all)
	}
}

// P20.1 Put, MaxLane: all lanes may be full at once.
func TestAllFull(t *testing.T) {
	n := net.New()
	var all content
	for k := range most {
		for lane := range lanes {
			text := fmt.Sprint(lane, " ", k)
			checkPut(t, n, lane, text)
			all[lane] = append(all[lane], told{text: text})
		}
	}
	for lane := range lanes {
		if n.Put(lane, []byte("more")) {
			t.Errorf("lane %d takes one more", lane)
		}
	}
	checkAll(t, n, all)
}

// P20.1 Put: where one was taken there is room again, for one.
func TestRoomAgain(t *testing.T) {
	for _, i := range []int{0, 1, 77, most - 1} {
		n := filled(t, 2, most)
		want := names(most)
		for k := range 5 {
			text := fmt.Sprint("new ", k)
			checkTake(t, n, 2, i, want[i])
			checkPut(t, n, 2, text)
			if n.Put(2, []byte("more")) {
				t.Error("a full lane takes one more")
			}
			want = append(slices.Delete(want, i, i+1), text)
		}
		checkLane(t, n, 2, good(want...))
	}
}
