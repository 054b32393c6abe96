package net_test

import (
	"fmt"
	"slices"
	"testing"

	"cloakroom/net"
)

// item is a frame and the lane that it is on.
type item struct {
	lane int
	told
}

// plain is a net as the chapter tells it: one list of all that is on its way, whatever its lane.
type plain struct {
	items []item
}

// find is where in the list the frame of that lane is that has i of its lane ahead of it; -1 where there is none.
func (p *plain) find(lane, i int) int {
	ahead := 0
	for at, it := range p.items {
		if it.lane != lane {
			continue
		}
		if ahead == i {
			return at
		}
		ahead++
	}
	return -1
}

func (p *plain) Len(lane int) int {
	many := 0
	for _, it := range p.items {
		if it.lane == lane {
			many++
		}
	}
	return many
}

func (p *plain) Put(lane int, frame []byte) bool {
	if lane < 0 || lane > 7 || p.Len(lane) == most {
		return false
	}
	p.items = append(p.items, item{lane, told{text: string(frame)}})
	return true
}

func (p *plain) Take(lane, i int) ([]byte, bool) {
	at := p.find(lane, i)
	if at < 0 {
		return nil, false
	}
	text := p.items[at].text
	p.items = slices.Delete(p.items, at, at+1)
	return []byte(text), true
}

func (p *plain) Double(lane, i int) bool {
	at := p.find(lane, i)
	if at < 0 || p.Len(lane) == most {
		return false
	}
	p.items = append(p.items, p.items[at])
	return true
}

func (p *plain) Late(lane, i int) bool {
	at := p.find(lane, i)
	if at < 0 {
		return false
	}
	late := p.items[at]
	p.items = append(slices.Delete(p.items, at, at+1), late)
	return true
}

func (p *plain) Spoil(lane, i, at int, mask uint16) bool {
	k := p.find(lane, i)
	if k < 0 || p.items[k].spoilt {
		return false
	}
	text, ok := turned(p.items[k].text, at, mask)
	if ok {
		p.items[k].told = told{text, true}
	}
	return ok
}

// content is what is on each lane, in its order.
func (p *plain) content() content {
	var all content
	for _, it := range p.items {
		all[it.lane] = append(all[it.lane], it.told)
	}
	return all
}

// anyNet is a net, or a plain one.
type anyNet interface {
	Put(lane int, frame []byte) bool
	Len(lane int) int
	Take(lane, i int) ([]byte, bool)
	Double(lane, i int) bool
	Late(lane, i int) bool
	Spoil(lane, i, at int, mask uint16) bool
}

// noise is a row of numbers that hangs on where it begins alone.
type noise uint64

func (n *noise) below(many int) int {
	*n ^= *n << 13
	*n ^= *n >> 7
	*n ^= *n << 17
	return int(uint64(*n) % uint64(many))
}

func (n *noise) of(list []int) int {
	return list[n.below(len(list))]
}

// The kinds of calls.
const (
	put = iota
	take
	double
	late
	spoil
	kinds
)

// deed is one call.
type deed struct {
	kind, lane, i, at int
	mask              uint16
	text              string
}

// answer is what a call told, and how many are on each lane behind it.
type answer struct {
	ok   bool
	text string
	many [lanes]int
}

func (d deed) do(x anyNet) answer {
	var a answer
	switch d.kind {
	case put:
		a.ok = x.Put(d.lane, []byte(d.text))
	case take:
		var b []byte
		b, a.ok = x.Take(d.lane, d.i)
		a.text = string(b)
	case double:
		a.ok = x.Double(d.lane, d.i)
	case late:
		a.ok = x.Late(d.lane, d.i)
	case spoil:
		a.ok = x.Spoil(d.lane, d.i, d.at, d.mask)
	}
	for lane := range lanes {
		a.many[lane] = x.Len(lane)
	}
	return a
}

// deed is one call of the first ones of the lanes, each with about so many frames; a few of its numbers can't be. Where
// the lanes are to grow, fewer frames are taken.
func (n *noise) deed(wide, many int, grow bool) deed {
	d := deed{kind: n.below(kinds), lane: n.below(wide), i: n.below(many + 1), at: n.below(60), mask: 1 << n.below(16)}
	if grow && d.kind == take && n.below(4) > 0 {
		d.kind = put
	}
	// Few texts, so that frames with the same bytes are about.
	d.text = "frames"[:n.below(7)]
	if n.below(3) == 0 {
		d.text = fmt.Sprint(n.below(1000))
	}
	switch n.below(30) {
	case 0:
		d.lane = n.of(wrong(lanes))
	case 1:
		d.i = n.of(wrong(many))
	case 2:
		d.at = n.of(wrong(60))
	case 3, 4:
		d.mask = uint16(n.below(1 << 16))
	case 5:
		d.mask = 0
	}
	return d
}

// both does one thing to a net and to a plain one, and holds what they answer against each other.
func both(t *testing.T, x *net.Net, p *plain, d deed) answer {
	t.Helper()
	a, want := d.do(x), d.do(p)
	if a != want {
		t.Fatalf("%+v: %+v, not %+v", d, a, want)
	}
	return a
}

// seen is how often each kind of call did something, how often it didn't, and how often a lane was full for it.
type seen struct {
	done, refused, full [kinds]int
}

func (s *seen) look(d deed, a answer) {
	if a.ok {
		s.done[d.kind]++
	} else {
		s.refused[d.kind]++
	}
	if d.lane >= 0 && d.lane < lanes && a.many[d.lane] == most {
		s.full[d.kind]++
	}
}

// check asks whether the rows had enough of everything to tell something.
func (s *seen) check(t *testing.T) {
	t.Helper()
	// A lane that something was taken from is never full.
	list := slices.Concat(s.done[:], s.refused[:], []int{s.full[put], s.full[double], s.full[late], s.full[spoil]})
	if slices.Min(list) < 500 {
		t.Errorf("too little of some kind: %+v", *s)
	}
}

// longRow is a row of calls on the first ones of the lanes, with so many frames on each at its beginning.
func longRow(t *testing.T, n *noise, s *seen, wide, many int) {
	t.Helper()
	x, p := net.New(), &plain{}
	for lane := range wide {
		for k := range many {
			both(t, x, p, deed{kind: put, lane: lane, text: fmt.Sprint(lane, " ", k)})
		}
	}
	for range 100 + n.below(300) {
		d := n.deed(wide, max(many, 4), many > 0)
		s.look(d, both(t, x, p, d))
	}
	checkAll(t, x, p.content())
}

// P20.1, P20.2: long rows of all calls mixed, on one lane up to all, held against a plain net: such that begin with
// nothing on the lanes, and such that begin with lanes that are full, or nearly.
func TestLongRows(t *testing.T) {
	n := noise(88172645463325252)
	var s seen
	for round := range 160 {
		wide := 1 + round%lanes
		longRow(t, &n, &s, wide, 0)
		longRow(t, &n, &s, wide, most-n.below(4))
	}
	s.check(t)
}

// fewDeeds are calls of two lanes, and of two places of each.
func fewDeeds() []deed {
	var list []deed
	for _, lane := range []int{0, 1} {
		list = append(list, deed{kind: put, lane: lane, text: "a"})
		for i := range 2 {
			list = append(list,
				deed{kind: take, lane: lane, i: i},
				deed{kind: double, lane: lane, i: i},
				deed{kind: late, lane: lane, i: i},
				deed{kind: spoil, lane: lane, i: i, at: 1, mask: 1})
		}
	}
	return append(list, deed{kind: spoil, i: 0, at: 8, mask: 1})
}

// P20.1, P20.2: all that can come of four calls out of few, behind two frames on one lane and one on the other.
func TestShortRows(t *testing.T) {
	list := fewDeeds()
	begin := []deed{{kind: put, text: "a"}, {kind: put, text: "b"}, {kind: put, lane: 1, text: "c"}}
	row := make([]deed, 4)
	for number := range len(list) * len(list) * len(list) * len(list) {
		for k := range row {
			row[k] = list[number%len(list)]
			number /= len(list)
		}
		x, p := net.New(), &plain{}
		for _, d := range slices.Concat(begin, row) {
			both(t, x, p, d)
		}
		if got, want := drain(x), p.content(); !got.same(want) {
			t.Fatalf("behind %+v: %v, not %v", row, got, want)
		}
	}
}
