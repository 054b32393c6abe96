package queue_test

import (
	"testing"

	"cloakroom/api"
	"cloakroom/queue"
)

// plain is a queue as the chapter tells it: of each client when it asked (0, if it doesn't wait) and for what, and the
// state of each call that can be.
type plain struct {
	now   int
	since [clients]int
	want  [clients]api.Want
	calls [clients][pages][objs][2]int // none, out, busy
}

// side is the place of a call to read, or of one to write.
func side(write bool) int {
	if write {
		return 1
	}
	return 0
}

func (p *plain) state(holder int, w api.Want) *int {
	return &p.calls[holder][w.Page][w.Obj][side(w.Write)]
}

func (p *plain) Add(w api.Want) bool {
	if p.since[w.Client] > 0 {
		return false
	}
	p.now++
	p.since[w.Client], p.want[w.Client] = p.now, w
	return true
}

func (p *plain) Remove(client int) bool {
	there := p.since[client] > 0
	p.since[client] = 0
	return there
}

// row is who waits and asked before a moment, in the order of asking.
func (p *plain) row(before int) []int {
	var list []int
	for moment := 1; moment < before; moment++ {
		for client, since := range p.since {
			if since == moment {
				list = append(list, client)
			}
		}
	}
	return list
}

func (p *plain) All() []api.Want {
	var list []api.Want
	for _, client := range p.row(p.now + 1) {
		list = append(list, p.want[client])
	}
	return list
}

func (p *plain) Ahead(w api.Want) []int {
	before := p.now + 1
	if p.since[w.Client] > 0 {
		before = p.since[w.Client]
	}
	var list []int
	for _, client := range p.row(before) {
		other := p.want[client]
		if other.Page != w.Page || other.Obj != w.Obj || client == w.Client {
			continue
		}
		if w.Write || other.Write {
			list = append(list, client)
		}
	}
	return list
}

func (p *plain) Reserved(client, page int) int {
	mask := 0
	for k := range objs {
		for other, w := range p.want {
			if other != client && p.since[other] > 0 && w == (api.Want{Client: other, Page: page, Obj: k, Write: true}) {
				mask += 1 << k
				break
			}
		}
	}
	return mask
}

func (p *plain) Call(holder int, w api.Want) bool {
	if *p.state(holder, w) != 0 {
		return false
	}
	*p.state(holder, w) = 1
	return true
}

func (p *plain) Busy(holder int, w api.Want) bool {
	if *p.state(holder, w) == 0 {
		return false
	}
	*p.state(holder, w) = 2
	return true
}

func (p *plain) Called(holder int, w api.Want) (bool, bool) {
	s := *p.state(holder, w)
	return s > 0, s == 2
}

func (p *plain) Out(holder, page int) bool {
	for _, both := range p.calls[holder][page] {
		if both[0] == 1 || both[1] == 1 {
			return true
		}
	}
	return false
}

func (p *plain) Answer(holder, page, obj int, write bool) {
	p.calls[holder][page][obj][side(write)] = 0
}

func (p *plain) Gone(client int) {
	p.since[client] = 0
	p.calls[client] = [pages][objs][2]int{}
}

// asked is what can be asked of a queue, and of a plain one.
type asked interface {
	All() []api.Want
	Ahead(w api.Want) []int
	Reserved(client, page int) int
	Called(holder int, w api.Want) (bool, bool)
	Out(holder, page int) bool
}

// shown is all that is told of a queue; a row of clients is a number with a digit for each.
type shown struct {
	many     int
	wants    [clients]api.Want
	ahead    [clients][pages][objs][2]int
	reserved [clients][pages]int
	there    [clients][pages][objs][2]bool
	busy     [clients][pages][objs][2]bool
	out      [clients][pages]bool
}

// show is all that is told of all clients, pages and objects.
func show(x asked) shown {
	var s shown
	list := x.All()
	s.many = len(list)
	copy(s.wants[:], list)
	for client := range clients {
		for page := range pages {
			s.reserved[client][page] = x.Reserved(client, page)
			s.out[client][page] = x.Out(client, page)
			for obj := range objs {
				for k, write := range []bool{false, true} {
					s.ahead[client][page][obj][k] = digits(x.Ahead(api.Want{Client: client, Page: page, Obj: obj, Write: write}))
					// A Call is the same, whichever client it is asked for.
					w := api.Want{Client: (client + page + obj) % clients, Page: page, Obj: obj, Write: write}
					s.there[client][page][obj][k], s.busy[client][page][obj][k] = x.Called(client, w)
				}
			}
		}
	}
	return s
}

func digits(list []int) int {
	n := 0
	for _, k := range list {
		n = n*10 + k + 1
	}
	return n
}

// noise is a row of numbers that hangs on where it begins alone.
type noise uint64

func (n *noise) below(many int) int {
	*n ^= *n << 13
	*n ^= *n >> 7
	*n ^= *n << 17
	return int(uint64(*n) % uint64(many))
}

// want is one that can be, on the first ones of the pages and objects.
func (n *noise) want(pages, objs int) api.Want {
	return api.Want{Client: n.below(clients), Page: n.below(pages), Obj: n.below(objs), Write: n.below(2) == 0}
}

// changed is what can be done to a queue, and to a plain one.
type changed interface {
	Add(w api.Want) bool
	Remove(client int) bool
	Call(holder int, w api.Want) bool
	Busy(holder int, w api.Want) bool
	Answer(holder, page, obj int, write bool)
	Gone(client int)
}

// do does one thing of several to a queue: what was it, and what was told?
func do(x changed, kind, client int, w api.Want) (string, bool) {
	switch kind {
	case 0, 1, 2, 3, 4:
		return "Add", x.Add(w)
	case 5, 6, 7:
		return "Remove", x.Remove(client)
	case 8, 9, 10, 11, 12:
		return "Call", x.Call(client, w)
	case 13, 14, 15, 16:
		return "Busy", x.Busy(client, w)
	case 17, 18, 19:
		x.Answer(client, w.Page, w.Obj, w.Write)
		return "Answer", false
	default:
		x.Gone(client)
		return "Gone", false
	}
}

// kinds is how many there are for do.
const kinds = 21

// P14.1, P14.2: long rows of all calls, held against a plain queue, on few objects (where much is in the way) and on all.
func TestLongRows(t *testing.T) {
	n := noise(88172645463325252)
	for round := range 60 {
		q, p := queue.New(), &plain{}
		for range 400 {
			kind, client, w := n.below(kinds), n.below(clients), n.want(1+round%pages, 1+round%objs)
			what, got := do(q, kind, client, w)
			if _, want := do(p, kind, client, w); got != want {
				t.Fatalf("round %d: %s of %d, %+v: %t", round, what, client, w, got)
			}
			if a, b := show(q), show(p); a != b {
				t.Fatalf("round %d: behind %s of %d, %+v: %+v, not %+v", round, what, client, w, a, b)
			}
		}
	}
}

// rows are all orders in which clients may stand, of all sets of them.
func rows(row []int, each func(row []int)) {
	each(row)
next:
	for client := range clients {
		for _, there := range row {
			if there == client {
				continue next
			}
		}
		rows(append(row[:len(row):len(row)], client), each)
	}
}

// P14.1: every row of clients, each to read or to write one object, and each that goes from each place and comes again.
func TestAllRowsAtOneObject(t *testing.T) {
	at := func(client, set int) api.Want {
		return api.Want{Client: client, Page: 5, Obj: 3, Write: set>>client&1 == 1}
	}
	both := func(row []int, set int) (*queue.Queue, *plain) {
		q, p := queue.New(), &plain{}
		for _, client := range row {
			if !q.Add(at(client, set)) || !p.Add(at(client, set)) {
				t.Errorf("%d isn't added in %d", client, row)
			}
		}
		return q, p
	}
	rows(nil, func(row []int) {
		for set := range 1 << clients {
			for client := range clients {
				q, p := both(row, set)
				if show(q) != show(p) {
					t.Fatalf("%d, %b: %+v, not %+v", row, set, show(q), show(p))
				}
				if q.Remove(client) != p.Remove(client) || show(q) != show(p) {
					t.Fatalf("%d, %b without %d: %+v, not %+v", row, set, client, show(q), show(p))
				}
				if !q.Add(at(client, ^set)) || !p.Add(at(client, ^set)) || show(q) != show(p) {
					t.Fatalf("%d, %b with %d again: %+v, not %+v", row, set, client, show(q), show(p))
				}
			}
		}
	})
}

// P14.2: both Calls of each holder for each object in each of their states, and all that can be done to them there.
func TestAllStatesOfCalls(t *testing.T) {
	begin := func(holder, page, obj, states int) (*queue.Queue, *plain) {
		q, p := queue.New(), &plain{}
		for k, write := range []bool{false, true} {
			w := api.Want{Page: page, Obj: obj, Write: write}
			for _, x := range []changed{q, p} {
				state := states
				if k == 1 {
					state /= 3
				}
				if state%3 > 0 {
					x.Call(holder, w)
				}
				if state%3 == 2 {
					x.Busy(holder, w)
				}
			}
		}
		return q, p
	}
	for place := range clients * pages * objs {
		holder, page, obj := place%clients, place/clients%pages, place/clients/pages
		for states := range 9 {
			for kind := range kinds {
				for client := range clients {
					for _, write := range []bool{false, true} {
						q, p := begin(holder, page, obj, states)
						w := api.Want{Client: 1, Page: page, Obj: obj, Write: write}
						what, got := do(q, kind, client, w)
						if _, want := do(p, kind, client, w); got != want || show(q) != show(p) {
							t.Fatalf("holder %d, states %d: %s of %d, %+v: %t, %+v, not %+v", holder, states, what, client, w, got, show(q), show(p))
						}
					}
				}
			}
		}
	}
}
