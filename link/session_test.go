package link_test

import (
	"bytes"
	"fmt"
	"slices"
	"testing"

	"cloakroom/api"
	"cloakroom/link"
)

// noise is a row of numbers that hangs on where it begins alone.
type noise uint64

func (n *noise) below(many int) int {
	*n ^= *n << 13
	*n ^= *n >> 7
	*n ^= *n << 17
	return int(uint64(*n) % uint64(many))
}

// end is a link with what was handed in there and what it told.
type end struct {
	l      *link.Link
	handed []string
	told   []string
}

// session is both ends, and all packets that were ever sent from each: one that is never picked is lost, one that is
// picked again is doubled, and one that is picked behind newer ones is late.
type session struct {
	ends [2]*end
	ways [2][]api.Packet
}

func newSession(client, epoch, boot int) *session {
	s := &session{}
	for i := range s.ends {
		s.ends[i] = &end{l: link.New(client, epoch, boot, i == 1)}
	}
	return s
}

// push hands the next body in at one end; what was refused is not handed in.
func (s *session) push(i int) {
	e := s.ends[i]
	body := fmt.Sprintf("%d of end %d", len(e.handed)+1, i)
	if e.l.Push([]byte(body)) == api.OK {
		e.handed = append(e.handed, body)
	}
}

// send lays one end's packets on its way.
func (s *session) send(i int) {
	s.ways[i] = append(s.ways[i], s.ends[i].l.Packets()...)
}

// bring gives the k-th packet of one end's way to the other end.
func (s *session) bring(i, k int) {
	s.hand(1-i, s.ways[i][k])
}

func (s *session) hand(i int, p api.Packet) {
	if body, ok := s.ends[i].l.Got(p); ok {
		s.ends[i].told = append(s.ends[i].told, string(body))
	}
}

// check asks whether what is told at each end is a beginning of what was handed in at the other, and whether the links count so.
func (s *session) check(t *testing.T) {
	t.Helper()
	for i, e := range s.ends {
		other := s.ends[1-i]
		if len(e.told) > len(other.handed) || !slices.Equal(e.told, other.handed[:len(e.told)]) {
			t.Errorf("end %d was told %q of %q", i, e.told, other.handed)
		}
		if e.l.Heard() != len(e.told) || e.l.Sent() != len(e.handed) {
			t.Errorf("end %d: sent %d of %d, heard %d of %d", i, e.l.Sent(), len(e.handed), e.l.Heard(), len(e.told))
		}
		if open := e.l.Open(); open > window || open < len(e.handed)-len(other.told) {
			t.Errorf("end %d has %d open, %d of %d came", i, open, len(other.told), len(e.handed))
		}
	}
}

// finish sends all again, from each end once and from the first one twice: all has come then, and is known to have come.
func (s *session) finish(t *testing.T) {
	t.Helper()
	for _, i := range []int{0, 1, 0} {
		for _, p := range s.ends[i].l.Packets() {
			s.hand(1-i, p)
		}
	}
	s.check(t)
	for i, e := range s.ends {
		if !slices.Equal(e.told, s.ends[1-i].handed) || e.l.Open() != 0 {
			t.Errorf("with all sent again end %d was told %q of %q, and has %d open", i, e.told, s.ends[1-i].handed, e.l.Open())
		}
	}
}

// P11.4: packets of a window in all orders, each of them twice: told is what comes at its turn.
func TestAllOrders(t *testing.T) {
	const many = 4
	var orders func(order []int, left [many]int)
	orders = func(order []int, left [many]int) {
		for k := range left {
			if left[k] > 0 {
				rest := left
				rest[k]--
				orders(append(slices.Clone(order), k), rest)
			}
		}
		// Each beginning of an order is one in which the rest is lost.
		s := newSession(1, 2, 3)
		for range many {
			s.push(0)
		}
		s.send(0)
		next := 0
		for _, k := range order {
			s.bring(0, k)
			if k == next {
				next++
			}
			if s.ends[1].l.Heard() != next {
				t.Errorf("in the order %d: heard %d, not %d", order, s.ends[1].l.Heard(), next)
			}
		}
		s.check(t)
		s.finish(t)
	}
	orders(nil, [many]int{2, 2, 2, 2})
}

// walk does the choices one by one, as far as they are choices, and says how many there are then.
func walk(choices []int) (*session, int) {
	s := newSession(0, 1, 1)
	for _, c := range choices {
		switch {
		case c < 2:
			s.push(c)
		case c < 4:
			s.send(c - 2)
		case c < 4+len(s.ways[0]):
			s.bring(0, c-4)
		default:
			s.bring(1, c-4-len(s.ways[0]))
		}
	}
	return s, 4 + len(s.ways[0]) + len(s.ways[1])
}

// P11.4: all that can happen in some steps at two ends.
func TestAllThatCanHappen(t *testing.T) {
	var from func(choices []int)
	from = func(choices []int) {
		s, many := walk(choices)
		s.check(t)
		if len(choices) == 7 {
			s.finish(t)
			return
		}
		for c := range many {
			if from(append(choices, c)); t.Failed() {
				t.Fatalf("behind %d", append(choices, c))
			}
		}
	}
	from(nil)
}

// strange is a packet that belongs to another session, or is an end's own, or tells that came what wasn't sent.
func strange(n *noise, s *session, i int) api.Packet {
	l := s.ends[1-i].l
	list := l.Packets()
	p := list[n.below(len(list))]
	p.Seq, p.Ack, p.Body = s.ends[i].l.Heard()+1, s.ends[i].l.Sent(), []byte("strange")
	switch n.below(5) {
	case 0:
		p.Client++
	case 1:
		p.Epoch--
	case 2:
		p.Boot--
	case 3:
		p.Server = !p.Server
	default:
		p.Ack++
	}
	return p
}

// P11.4: long sessions, through many windows, with packets that are lost, doubled and late, and strange ones.
func TestLongSessions(t *testing.T) {
	n := noise(88172645463325252)
	for round := range 300 {
		s := newSession(round%4, 1+round, 1+round/2)
		for range 400 {
			i := n.below(2)
			switch n.below(8) {
			case 0, 1:
				s.push(i)
			case 2, 3:
				s.send(i)
			case 4:
				if many := len(s.ways[i]); many > 0 {
					s.bring(i, n.below(many))
				}
			case 5, 6:
				if many := len(s.ways[i]); many > 0 {
					s.bring(i, many-1-n.below(min(many, 10)))
				}
			default:
				s.hand(i, strange(&n, s, i))
			}
			if s.check(t); t.Failed() {
				return
			}
		}
		if s.finish(t); t.Failed() {
			return
		}
	}
}

// P11.4: sessions go on through more than one window, with whole windows at both ends.
func TestManyWindows(t *testing.T) {
	s := newSession(3, 7, 2)
	for round := range 50 {
		for i := range s.ends {
			for range window + 3 {
				s.push(i)
			}
		}
		for i, e := range s.ends {
			checkCounts(t, e.l, window*(round+1), window*round, window)
			if list := e.l.Packets(); list[0].Seq != window*round+1 || list[window-1].Seq != window*(round+1) {
				t.Errorf("round %d, end %d: %s", round, i, packetsTold(list))
			}
		}
		s.finish(t)
	}
	if len(s.ends[0].told) != 50*window || len(s.ends[1].told) != 50*window {
		t.Error(len(s.ends[0].told), len(s.ends[1].told))
	}
}

// P11.4: one packet at a time, the oldest one, as often as it needs: all comes in the end.
func TestOnePacketAtATime(t *testing.T) {
	s := newSession(0, 1, 1)
	for range 100 {
		s.push(0)
		s.push(1)
		for i := range s.ends {
			s.hand(1-i, s.ends[i].l.Packets()[0])
		}
		s.check(t)
	}
	s.finish(t)
	if len(s.ends[0].told) < 100 && len(s.ends[1].told) < 100 {
		t.Error(len(s.ends[0].told), len(s.ends[1].told))
	}
}

// numbered is a body with its number.
type numbered struct {
	number int
	body   string
}

// beside is a link as the chapter tells it.
type beside struct {
	client, epoch, boot int
	server              bool
	open                []numbered
	sent, heard         int
}

func (m *beside) push(body []byte) api.Errno {
	if len(body) > mostBody {
		return api.ErrMsg
	}
	if m.sent == maxNum {
		return api.ErrSeq
	}
	if len(m.open) >= window {
		return api.ErrWindow
	}
	m.sent++
	m.open = append(m.open, numbered{m.sent, string(body)})
	return api.OK
}

func (m *beside) packets() []api.Packet {
	p := api.Packet{Client: m.client, Epoch: m.epoch, Boot: m.boot, Ack: m.heard, Server: m.server}
	var list []api.Packet
	for _, x := range m.open {
		p.Seq, p.Body = x.number, []byte(x.body)
		list = append(list, p)
	}
	if len(list) == 0 {
		list = append(list, p)
	}
	return list
}

func (m *beside) got(p api.Packet) (string, bool) {
	if p.Client != m.client || p.Epoch != m.epoch || p.Boot != m.boot || p.Server == m.server || p.Ack > m.sent {
		return "", false
	}
	m.open = slices.DeleteFunc(m.open, func(x numbered) bool { return x.number <= p.Ack })
	if p.Seq != m.heard+1 {
		return "", false
	}
	m.heard++
	return string(p.Body), true
}

func (m *beside) told() string {
	return fmt.Sprintf("sent %d heard %d open %d\n%s", m.sent, m.heard, len(m.open), packetsTold(m.packets()))
}

// anyPacket is one that mostly is the other end's, with a Seq and an Ack about those that matter.
func anyPacket(n *noise, m *beside) api.Packet {
	p := api.Packet{Client: m.client, Epoch: m.epoch, Boot: m.boot, Server: !m.server, Body: text(n.below(99), n.below(40))}
	p.Seq = m.heard - 1 + n.below(5)
	p.Ack = m.sent - 10 + n.below(12)
	edge := edges[n.below(len(edges))]
	switch n.below(16) {
	case 0:
		p.Client = edge
	case 1:
		p.Epoch = edge
	case 2:
		p.Boot = edge
	case 3:
		p.Server = m.server
	case 4:
		p.Seq = edge
	case 5:
		p.Ack = edge
	case 6:
		p.Seq = 0
	}
	return p
}

// P11.1 to P11.3: rows of calls at all arguments, held against a link that the tests keep beside.
func TestBeside(t *testing.T) {
	n := noise(362436069362436069)
	for range 200 {
		m := &beside{client: n.below(4), epoch: n.below(3) * n.below(maxNum), boot: n.below(3) * n.below(maxNum), server: n.below(2) == 0}
		l := link.New(m.client, m.epoch, m.boot, m.server)
		for range 150 {
			if n.below(2) == 0 {
				size := []int{0, 1, 2, n.below(30), mostBody - 1, mostBody, mostBody + 1}[n.below(7)]
				body := text(n.below(99), size)
				if e, want := l.Push(body), m.push(body); e != want {
					t.Fatalf("Push of %d bytes: %d, not %d, at %s", size, e, want, m.told())
				}
			} else {
				p := anyPacket(&n, m)
				before := m.told()
				body, ok := l.Got(p)
				if want, there := m.got(p); ok != there || !bytes.Equal(body, []byte(want)) {
					t.Fatalf("Got of %s: %q, %t, not %q, %t, at %s", packetTold(p), body, ok, want, there, before)
				}
			}
			if told(l) != m.told() {
				t.Fatalf("%snot %s", told(l), m.told())
			}
		}
	}
}
