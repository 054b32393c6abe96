package table_test

import (
	"testing"

	"cloakroom/table"
)

// had is whether a client has a copy of an object, and whether it owns it.
type had struct{ copied, owned bool }

// plain is a table as the chapter tells it, object by object.
type plain struct {
	has [clients][pages][objs]had
}

func (p *plain) Grant(client, page, copies, own int) bool {
	for k := range objs {
		for other := range clients {
			h := p.has[other][page][k]
			asked, written := (copies|own)>>k&1 == 1, own>>k&1 == 1
			if other != client && (h.owned && asked || h.copied && written) {
				return false
			}
		}
	}
	for k := range objs {
		h := &p.has[client][page][k]
		h.copied = h.copied || (copies|own)>>k&1 == 1
		h.owned = h.owned || own>>k&1 == 1
	}
	return true
}

func (p *plain) Drop(client, page, copies, own int) {
	for k := range objs {
		if copies>>k&1 == 1 {
			p.has[client][page][k] = had{}
		}
		if own>>k&1 == 1 {
			p.has[client][page][k].owned = false
		}
	}
}

func (p *plain) Clear(client int) {
	for page := range pages {
		p.Drop(client, page, all, all)
	}
}

func (p *plain) Copies(client, page int) int {
	mask := 0
	for k, h := range p.has[client][page] {
		if h.copied {
			mask += 1 << k
		}
	}
	return mask
}

func (p *plain) Own(client, page int) int {
	mask := 0
	for k, h := range p.has[client][page] {
		if h.owned {
			mask += 1 << k
		}
	}
	return mask
}

func (p *plain) Holders(client, page, obj int, write bool) []int {
	var list []int
	for other := range clients {
		h := p.has[other][page][obj]
		if other != client && (write && h.copied || !write && h.owned) {
			list = append(list, other)
		}
	}
	return list
}

func (p *plain) Free(client, page int) int {
	mask := all
	for k := range objs {
		if len(p.Holders(client, page, k, false)) > 0 {
			mask -= 1 << k
		}
	}
	return mask
}

func (p *plain) Alone(client, page int) bool {
	for k := range objs {
		if len(p.Holders(client, page, k, true)) > 0 {
			return false
		}
	}
	return true
}

// asked is what can be asked of a table, and of a plain one.
type asked interface {
	Copies(client, page int) int
	Own(client, page int) int
	Holders(client, page, obj int, write bool) []int
	Free(client, page int) int
	Alone(client, page int) bool
}

// shown is all that is told of a client and a page; a row of holders is a number with a digit for each.
type shown struct {
	copies, own, free int
	alone             bool
	readers, writers  [objs]int
}

// show is all that is told of all clients and pages.
func show(x asked) [clients][pages]shown {
	var told [clients][pages]shown
	for client := range clients {
		for page := range pages {
			s := shown{copies: x.Copies(client, page), own: x.Own(client, page), free: x.Free(client, page), alone: x.Alone(client, page)}
			for k := range objs {
				s.readers[k] = digits(x.Holders(client, page, k, true))
				s.writers[k] = digits(x.Holders(client, page, k, false))
			}
			told[client][page] = s
		}
	}
	return told
}

func digits(list []int) int {
	n := 0
	for _, k := range list {
		n = n*10 + k + 1
	}
	return n
}

// noise is a row of numbers that hangs on where it begins alone.
type noise uint64

func (n *noise) below(many int) int {
	*n ^= *n << 13
	*n ^= *n >> 7
	*n ^= *n << 17
	return int(uint64(*n) % uint64(many))
}

// checkOwners asks whether what a client owns is a copy of it and of nobody else.
func checkOwners(t *testing.T, x *table.Table) {
	t.Helper()
	for page := range pages {
		for client := range clients {
			own := x.Own(client, page)
			if own&^x.Copies(client, page) != 0 {
				t.Errorf("client %d owns %d of page %d and has %d", client, own, page, x.Copies(client, page))
			}
			for other := range clients {
				if other != client && own&x.Copies(other, page) != 0 {
					t.Errorf("client %d owns %d of page %d, of which client %d has %d", client, own, page, other, x.Copies(other, page))
				}
			}
		}
	}
}

// step does one thing to both tables, on the first ones of the pages.
func step(t *testing.T, n *noise, x *table.Table, p *plain, pages int) {
	t.Helper()
	client, page, copies, own := n.below(clients), n.below(pages), n.below(all+1), n.below(all+1)
	// Small masks are granted more often than great ones.
	if n.below(2) == 0 {
		copies, own = copies&n.below(all+1), own&n.below(all+1)&n.below(all+1)
	}
	switch n.below(12) {
	case 0, 1, 2, 3, 4, 5, 6:
		if ok, want := x.Grant(client, page, copies, own), p.Grant(client, page, copies, own); ok != want {
			t.Errorf("Grant %d %d %d %d: %t", client, page, copies, own, ok)
		}
	case 7, 8, 9, 10:
		x.Drop(client, page, copies, own)
		p.Drop(client, page, copies, own)
	default:
		x.Clear(client)
		p.Clear(client)
	}
}

// P12.1 to P12.3: long rows of Grants, Drops and Clears, held against a plain table.
func TestLongRows(t *testing.T) {
	n := noise(88172645463325252)
	for round := range 60 {
		x, p := table.New(), &plain{}
		for range 400 {
			step(t, &n, x, p, 1+round%pages)
			checkOwners(t, x)
			if show(x) != show(p) {
				t.Errorf("round %d: %+v, not %+v", round, show(x), show(p))
			}
			if t.Failed() {
				return
			}
		}
	}
}

// objectStates are all states of object 0, by clients: some have copies, or one owns it.
func objectStates() [][clients]has {
	var list [][clients]has
	for set := range 1 << clients {
		var state [clients]has
		for client := range clients {
			state[client].copies = set >> client & 1
		}
		list = append(list, state)
	}
	for client := range clients {
		var state [clients]has
		state[client] = has{1, 1}
		list = append(list, state)
	}
	return list
}

// P12.1 to P12.3: each object of each page in each state it can be in, and all that can be done to it there.
func TestAllStatesOfAnObject(t *testing.T) {
	begin := func(page, obj int, state [clients]has) (*table.Table, *plain) {
		x, p := table.New(), &plain{}
		for client, h := range state {
			give(t, x, client, page, has{h.copies << obj, h.own << obj})
			p.Grant(client, page, h.copies<<obj, h.own<<obj)
		}
		return x, p
	}
	check := func(x *table.Table, p *plain, what string) {
		checkOwners(t, x)
		if show(x) != show(p) {
			t.Errorf("%s: %+v, not %+v", what, show(x), show(p))
		}
	}
	for page := range pages {
		for obj := range objs {
			for _, state := range objectStates() {
				for client := range clients {
					for ask := range 4 {
						copies, own := ask&1<<obj, ask>>1<<obj
						x, p := begin(page, obj, state)
						if ok, want := x.Grant(client, page, copies, own), p.Grant(client, page, copies, own); ok != want {
							t.Errorf("at %v Grant %d %d %d %d: %t", state, client, page, copies, own, ok)
						}
						check(x, p, "Grant")
						x, p = begin(page, obj, state)
						x.Drop(client, page, copies, own)
						p.Drop(client, page, copies, own)
						check(x, p, "Drop")
					}
					x, p := begin(page, obj, state)
					x.Clear(client)
					p.Clear(client)
					check(x, p, "Clear")
				}
			}
		}
	}
}

// P12.3: nobody comes to own what another has, nor to have what another owns, whatever is asked for on the way.
func TestOwnersStayAlone(t *testing.T) {
	for owner := range clients {
		for own := range all + 1 {
			x := table.New()
			give(t, x, owner, 5, has{own, own})
			for client := range clients {
				for ask := range all + 1 {
					x.Grant(client, 5, ask, 0)
					x.Grant(client, 5, 0, ask)
					x.Drop(client, 4, all, all)
					checkOwners(t, x)
				}
			}
			if x.Own(owner, 5)&own != own {
				t.Errorf("client %d owned %d and owns %d", owner, own, x.Own(owner, 5))
			}
		}
	}
}

// P12.2: Holders are rising for all sets of clients, whatever the order in which they came.
func TestHoldersOfAllSets(t *testing.T) {
	for _, order := range [][]int{{0, 1, 2, 3}, {3, 2, 1, 0}, {2, 0, 3, 1}} {
		for set := range 1 << clients {
			x := table.New()
			for _, client := range order {
				if set>>client&1 == 1 {
					give(t, x, client, 2, has{8, 0})
				}
			}
			for client := range clients {
				var want []int
				for other := range clients {
					if other != client && set>>other&1 == 1 {
						want = append(want, other)
					}
				}
				checkHolders(t, x, client, 2, 3, true, want...)
				checkHolders(t, x, client, 2, 3, false)
			}
		}
	}
}
