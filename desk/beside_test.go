package desk_test

import (
	"testing"

	"cloakroom/api"
	"cloakroom/desk"
)

// had is whether a client has a copy of an object, and whether it owns it.
type had struct{ copied, owned bool }

// plain is a desk as the chapter tells it, object by object: what clients have, who waits for what in the order of
// asking, and the state of each call that can be (none, out, busy).
type plain struct {
	has   [clients][pages][objs]had
	row   [clients]api.Want
	many  int
	calls [clients][pages][objs][2]int
}

// side is the place of a call to read, or of one to write.
func side(write bool) int {
	if write {
		return 1
	}
	return 0
}

func (p *plain) Handle(client int, m api.Msg) []api.Act {
	switch m.Kind {
	case api.AskRead:
		p.ask(api.Want{Client: client, Page: m.Page, Obj: m.Obj})
	case api.AskWrite:
		p.ask(api.Want{Client: client, Page: m.Page, Obj: m.Obj, Write: true})
	case api.Release:
		p.release(client, m)
	case api.Busy:
		if s := &p.calls[client][m.Page][m.Obj][side(m.Write)]; *s > 0 {
			*s = 2
		}
	}
	return p.settle()
}

func (p *plain) ask(w api.Want) {
	for _, other := range p.row[:p.many] {
		if other.Client == w.Client {
			return
		}
	}
	p.row[p.many] = w
	p.many++
}

func (p *plain) leave(client int) {
	many := 0
	for _, w := range p.row[:p.many] {
		if w.Client != client {
			p.row[many] = w
			many++
		}
	}
	clear(p.row[many:])
	p.many = many
}

func (p *plain) release(client int, m api.Msg) {
	for k := range objs {
		h := &p.has[client][m.Page][k]
		if m.Own>>k&1 == 1 {
			h.owned = false
		}
		if m.Copy>>k&1 == 1 {
			*h = had{}
		}
		calls := &p.calls[client][m.Page][k]
		if !h.owned {
			calls[side(false)] = 0
		}
		if !h.copied {
			calls[side(true)] = 0
		}
	}
}

func (p *plain) Gone(client int) []api.Act {
	p.has[client] = [pages][objs]had{}
	p.calls[client] = [pages][objs][2]int{}
	p.leave(client)
	return p.settle()
}

func (p *plain) settle() []api.Act {
	var acts []api.Act
again:
	for k, w := range p.row[:p.many] {
		if len(p.ahead(k)) > 0 || p.out(w.Client, w.Page) {
			continue
		}
		holders := p.holders(w)
		if len(holders) == 0 {
			p.leave(w.Client)
			p.give(w)
			acts = append(acts, grant(w.Client, w.Page, p.Copies(w.Client, w.Page), p.Own(w.Client, w.Page)))
			goto again
		}
		for _, holder := range holders {
			if s := &p.calls[holder][w.Page][w.Obj][side(w.Write)]; *s == 0 {
				*s = 1
				acts = append(acts, call(holder, w.Page, w.Obj, w.Write))
			}
		}
	}
	found := inRings(p.Edges())
	for client := clients - 1; client >= 0; client-- {
		if found[client] {
			p.leave(client)
			acts = append(acts, fail(client))
			goto again
		}
	}
	return acts
}

// ahead is who stands ahead of a place in the row, and in its way.
func (p *plain) ahead(place int) []int {
	w := p.row[place]
	var list []int
	for _, other := range p.row[:place] {
		if other.Page == w.Page && other.Obj == w.Obj && (other.Write || w.Write) {
			list = append(list, other.Client)
		}
	}
	return list
}

func (p *plain) out(client, page int) bool {
	for _, calls := range p.calls[client][page] {
		if calls[0] == 1 || calls[1] == 1 {
			return true
		}
	}
	return false
}

func (p *plain) holders(w api.Want) []int {
	var list []int
	for other := range clients {
		h := p.has[other][w.Page][w.Obj]
		if other != w.Client && (w.Write && h.copied || !w.Write && h.owned) {
			list = append(list, other)
		}
	}
	return list
}

// give is what is granted, object by object, for a Want that is out of the row already.
func (p *plain) give(w api.Want) {
	whole := w.Write
	for other := range clients {
		whole = whole && (other == w.Client || p.Copies(other, w.Page) == 0)
	}
	for _, other := range p.row[:p.many] {
		whole = whole && other.Page != w.Page
	}
	for k := range objs {
		h := &p.has[w.Client][w.Page][k]
		if k == w.Obj || whole || p.spare(w.Client, w.Page, k) {
			h.copied = true
		}
		if whole || w.Write && k == w.Obj {
			h.owned = true
		}
	}
}

// spare is an object that nobody else owns, or waits to write.
func (p *plain) spare(client, page, obj int) bool {
	for other := range clients {
		if other != client && p.has[other][page][obj].owned {
			return false
		}
	}
	for _, w := range p.row[:p.many] {
		if w.Client != client && w == (api.Want{Client: w.Client, Page: page, Obj: obj, Write: true}) {
			return false
		}
	}
	return true
}

func (p *plain) Copies(client, page int) int {
	mask := 0
	for k, h := range p.has[client][page] {
		if h.copied {
			mask += 1 << k
		}
	}
	return mask
}

func (p *plain) Own(client, page int) int {
	mask := 0
	for k, h := range p.has[client][page] {
		if h.owned {
			mask += 1 << k
		}
	}
	return mask
}

func (p *plain) Owns(client int, puts []api.Put) bool {
	all := true
	for _, x := range puts {
		all = all && p.has[client][x.Page][x.Obj].owned
	}
	return all
}

func (p *plain) Wants() []api.Want {
	return append([]api.Want(nil), p.row[:p.many]...)
}

func (p *plain) Edges() []api.Edge {
	var list []api.Edge
	for k, w := range p.row[:p.many] {
		for _, holder := range p.holders(w) {
			if p.calls[holder][w.Page][w.Obj][side(w.Write)] == 2 {
				list = append(list, api.Edge{From: w.Client, To: holder})
			}
		}
		for _, other := range p.ahead(k) {
			list = append(list, api.Edge{From: w.Client, To: other})
		}
	}
	return list
}

// inRings is of each client whether it waits for itself, over any others.
func inRings(list []api.Edge) [clients]bool {
	var come [clients][clients]bool
	for _, e := range list {
		come[e.From][e.To] = true
	}
	for mid := range clients {
		for from := range clients {
			for to := range clients {
				come[from][to] = come[from][to] || come[from][mid] && come[mid][to]
			}
		}
	}
	var found [clients]bool
	for client := range clients {
		found[client] = come[client][client]
	}
	return found
}

// anyDesk is a desk, or a plain one.
type anyDesk interface {
	Handle(client int, m api.Msg) []api.Act
	Gone(client int) []api.Act
	Owns(client int, puts []api.Put) bool
	Copies(client, page int) int
	Own(client, page int) int
	Wants() []api.Want
	Edges() []api.Edge
}

// shown is all that is told of a desk.
type shown struct {
	copies, own [clients][pages]int
	owns        [clients][pages][objs]bool
	wants       [clients]api.Want
	manyWants   int
	edges       [6 * clients]api.Edge
	manyEdges   int
}

func show(x anyDesk) shown {
	var s shown
	for client := range clients {
		for page := range pages {
			s.copies[client][page] = x.Copies(client, page)
			s.own[client][page] = x.Own(client, page)
			for obj := range objs {
				s.owns[client][page][obj] = x.Owns(client, []api.Put{{Page: page, Obj: obj, Value: 1i}})
			}
		}
	}
	s.manyWants = copy(s.wants[:], x.Wants())
	s.manyEdges = copy(s.edges[:], x.Edges())
	return s
}

// said is what somebody says, or, if gone, that it is gone.
type said struct {
	client int
	m      api.Msg
	gone   bool
}

func (s said) do(x anyDesk) []api.Act {
	if s.gone {
		return x.Gone(s.client)
	}
	return x.Handle(s.client, s.m)
}

// checkSettled is P15.4, and that all that was sent are messages of a server that are right.
func checkSettled(t *testing.T, d anyDesk, acts []api.Act) {
	t.Helper()
	s := show(d)
	for page := range pages {
		for client := range clients {
			if own := s.own[client][page]; own&^s.copies[client][page] != 0 {
				t.Fatalf("%d owns what it has no copy of: %+v", client, s)
			}
			for other := range clients {
				if other != client && s.own[client][page]&s.copies[other][page] != 0 {
					t.Fatalf("%d has a copy of what %d owns: %+v", other, client, s)
				}
			}
		}
	}
	if found := inRings(d.Edges()); found != [clients]bool{} {
		t.Fatalf("some wait for themselves: %t, by %+v", found, d.Edges())
	}
	for _, a := range acts {
		if !isServers(a) {
			t.Fatalf("sent is %+v", a)
		}
	}
}

// both says one thing to a desk and to a plain one, and holds what they answer and tell against each other.
func both(t *testing.T, d *desk.Desk, p *plain, s said) []api.Act {
	t.Helper()
	got, want := s.do(d), s.do(p)
	if !sameActs(got, want) {
		t.Fatalf("%+v: sent is %+v, not %+v", s, got, want)
	}
	if a, b := show(d), show(p); a != b {
		t.Fatalf("behind %+v: %+v, not %+v", s, a, b)
	}
	checkSettled(t, d, got)
	return got
}

// noise is a row of numbers that hangs on where it begins alone.
type noise uint64

func (n *noise) below(many int) int {
	*n ^= *n << 13
	*n ^= *n >> 7
	*n ^= *n << 17
	return int(uint64(*n) % uint64(many))
}

// says is something that a client may say of the first ones of the pages and objects; it answers the calls that it knows
// of, rather often.
func (n *noise) says(pages, objs int, open *[]api.Act) said {
	client, page, obj := n.below(clients), n.below(pages), n.below(objs)
	switch n.below(20) {
	case 0, 1, 2, 3:
		return said{client: client, m: read(page, obj)}
	case 4, 5, 6, 7, 8:
		return said{client: client, m: write(page, obj)}
	case 9:
		return said{client: client, m: release(page, n.below(all+1), n.below(all+1))}
	case 10:
		return said{client: client, m: busy(page, obj, n.below(2) == 0)}
	case 11:
		others := otherKinds(page, obj)
		return said{client: client, m: others[n.below(len(others))]}
	case 12:
		return said{client: client, gone: n.below(3) == 0, m: read(page, obj)}
	}
	if len(*open) == 0 {
		return said{client: client, m: release(page, all, all)}
	}
	k := n.below(len(*open))
	c := (*open)[k]
	if n.below(3) > 0 {
		return said{client: c.Client, m: busy(c.Msg.Page, c.Msg.Obj, c.Msg.Write)}
	}
	*open = append((*open)[:k], (*open)[k+1:]...)
	if c.Msg.Write {
		return said{client: c.Client, m: release(c.Msg.Page, 1<<c.Msg.Obj, 1<<c.Msg.Obj)}
	}
	return said{client: c.Client, m: release(c.Msg.Page, 0, all)}
}

// seen is how often what is rare has come up: Grants of a whole page to write, and of less; answers with a Fail, with
// more than one, and Fails behind an earlier one with something sent between them.
type seen struct{ whole, partly, fails, twice, between int }

func (s *seen) look(acts []api.Act) {
	fails, sinceFail := 0, 0
	for _, a := range acts {
		sinceFail++
		switch {
		case a.Msg.Kind == api.Fail:
			if fails++; fails > 1 && sinceFail > 1 {
				s.between++
			}
			sinceFail = 0
		case a.Msg.Kind == api.Grant && a.Msg.Own == all:
			s.whole++
		case a.Msg.Kind == api.Grant && a.Msg.Own != 0:
			s.partly++
		}
	}
	if fails > 0 {
		s.fails++
	}
	if fails > 1 {
		s.twice++
	}
}

// P15.1 to P15.4: long rows of all calls, held against a plain desk, on few pages and objects (where much is in the way)
// and on all.
func TestLongRows(t *testing.T) {
	n := noise(88172645463325252)
	var s seen
	for round := range 240 {
		d, p := desk.New(), &plain{}
		var open []api.Act
		for range 400 {
			acts := both(t, d, p, n.says(1+round%pages, 1+round/pages%objs, &open))
			for _, a := range acts {
				if a.Msg.Kind == api.Call {
					open = append(open, a)
				}
			}
			s.look(acts)
		}
	}
	if s.whole == 0 || s.partly == 0 || s.fails == 0 || s.twice == 0 || s.between == 0 {
		t.Errorf("the rows reach too little: %+v", s)
	}
}

// P15.1 to P15.4: all that three clients can say of one object, in every state that they can come to by it.
func TestAllStatesAtOneObject(t *testing.T) {
	const page, obj, bit = 4, 2, 4
	var words []said
	for client := range 3 {
		list := []api.Msg{read(page, obj), write(page, obj), release(page, bit, bit), release(page, 0, bit), busy(page, obj, false), busy(page, obj, true)}
		for _, m := range list {
			words = append(words, said{client: client, m: m})
		}
		words = append(words, said{client: client, gone: true})
	}
	type come struct {
		to plain
		by []said
	}
	known := map[plain]bool{{}: true}
	states := []come{{}}
	for k := 0; k < len(states); k++ {
		c := states[k]
		for _, word := range words {
			d, p := desk.New(), c.to
			for _, s := range c.by {
				s.do(d)
			}
			both(t, d, &p, word)
			if !known[p] {
				known[p] = true
				states = append(states, come{p, append(c.by[:len(c.by):len(c.by)], word)})
			}
		}
	}
	if len(states) < 10000 {
		t.Errorf("only %d states were come to", len(states))
	}
}
