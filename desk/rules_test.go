package desk_test

import (
	"math"
	"slices"
	"testing"

	"cloakroom/api"
	"cloakroom/desk"
	"cloakroom/msg"
)

// wrong are numbers that are no client, page, object or mask, where least is the first one above the greatest: those about
// the edges of 64 bits, and such as have the lowest bits of those that can be.
func wrong(least int) []int {
	return []int{math.MinInt, math.MinInt + 1, math.MinInt32, -1<<32 + 1, -64, -4, -3, -2, -1, least, least + 1, 63, 64, 65,
		256, 257, 1 << 31, 1 << 32, 1<<32 + 1, 1<<62 + 1, math.MaxInt - 1, math.MaxInt}
}

// filled is a desk at which each client has something, three wait, and there are Calls that are OUT and such as are busy.
func filled(t *testing.T) *desk.Desk {
	t.Helper()
	d := readBy(t, 2, 0, 1, 3)
	says(t, d, 0, write(0, 1), grant(0, 0, all, all))
	says(t, d, 2, write(5, 1), grant(2, 5, all, all))
	says(t, d, 3, write(2, 1), call(0, 2, 1, true), call(1, 2, 1, true))
	says(t, d, 0, busy(2, 1, true))
	says(t, d, 2, read(2, 1))
	says(t, d, 1, read(0, 3), call(0, 0, 3, false))
	checkEdges(t, d, api.Edge{From: 3, To: 0}, api.Edge{From: 2, To: 3})
	return d
}

// filledPlain is the same, plain.
func filledPlain() *plain {
	p := &plain{}
	for _, s := range []said{{client: 0, m: read(2, 0)}, {client: 1, m: read(2, 0)}, {client: 3, m: read(2, 0)}, {client: 0, m: write(0, 1)},
		{client: 2, m: write(5, 1)}, {client: 3, m: write(2, 1)}, {client: 0, m: busy(2, 1, true)}, {client: 2, m: read(2, 1)}, {client: 1, m: read(0, 3)}} {
		s.do(p)
	}
	return p
}

// checkOn holds a desk against a plain one by all that can be said on one page or another, each said to a desk of its own.
func checkOn(t *testing.T, begin func() *desk.Desk, p *plain) {
	t.Helper()
	for client := range clients {
		for _, page := range []int{0, 2, 5} {
			for _, m := range []api.Msg{read(page, 1), write(page, 3), release(page, all, all), release(page, 0, all), busy(page, 1, true), busy(page, 3, false)} {
				q := *p
				both(t, begin(), &q, said{client: client, m: m})
			}
		}
		q := *p
		both(t, begin(), &q, said{client: client, gone: true})
	}
}

// P1: messages of clients that can't be, and messages that aren't right, end without a panic. (They change nothing.)
func TestWrongClients(t *testing.T) {
	for _, d := range []*desk.Desk{desk.New(), filled(t)} {
		before := show(d)
		for _, client := range wrong(clients) {
			for page := range pages {
				list := append(otherKinds(page, 1), read(page, 1), write(page, 1), release(page, all, all), busy(page, 1, true), busy(page, 1, false))
				for _, m := range list {
					checkSent(t, m, d.Handle(client, m), nil)
				}
				if d.Copies(client, page) != 0 || d.Own(client, page) != 0 || d.Owns(client, []api.Put{{Page: page, Obj: 1}}) {
					t.Errorf("%d has something of page %d", client, page)
				}
			}
			d.Owns(client, nil)
			checkSent(t, client, d.Gone(client), nil)
		}
		if show(d) != before {
			t.Errorf("behind what clients said that can't be: %+v", show(d))
		}
	}
}

// P1: places that can't be.
func TestWrongPlaces(t *testing.T) {
	for _, d := range []*desk.Desk{desk.New(), filled(t)} {
		before := show(d)
		for client := range clients {
			for _, page := range wrong(pages) {
				for _, m := range []api.Msg{read(page, 1), write(page, 1), release(page, all, all), busy(page, 1, true)} {
					checkSent(t, m, d.Handle(client, m), nil)
				}
				if d.Copies(client, page) != 0 || d.Own(client, page) != 0 || d.Owns(client, []api.Put{{Page: page, Obj: 1}}) {
					t.Errorf("%d has something of page %d", client, page)
				}
			}
			for _, obj := range wrong(objs) {
				for page := range pages {
					for _, m := range []api.Msg{read(page, obj), write(page, obj), busy(page, obj, true), busy(page, obj, false)} {
						checkSent(t, m, d.Handle(client, m), nil)
					}
					if d.Owns(client, []api.Put{{Page: page, Obj: obj}}) {
						t.Errorf("%d owns object %d", client, obj)
					}
				}
			}
		}
		if show(d) != before {
			t.Errorf("behind places that can't be: %+v", show(d))
		}
	}
}

// P1: all arguments, mixed: kinds, places and masks that can't be, and parts that a kind doesn't have.
func TestAllArguments(t *testing.T) {
	numbers := append(wrong(all+1), 0, 1, 2, 3, 4, 5, 6, 7, 8, 15)
	puts := []api.Put{{Page: -1, Obj: math.MaxInt}, {Page: 2, Obj: 1, Value: complex(math.NaN(), math.Inf(1))}, {Page: math.MinInt, Obj: -1}}
	n := noise(42)
	pick := func() int {
		// What can be comes up often, so that something happens between what can't.
		if n.below(4) > 0 {
			return n.below(4)
		}
		return numbers[n.below(len(numbers))]
	}
	for range 40 {
		d := filled(t)
		for range 300 {
			m := api.Msg{Kind: pick(), Page: pick(), Obj: pick(), Txn: pick(), Copy: pick(), Own: pick(), Write: n.below(2) == 0}
			if n.below(4) == 0 {
				m.Kind = api.Busy
				m.Puts, m.Values = puts, [objs]complex128{1i, complex(math.NaN(), 0)}
			}
			d.Handle(pick(), m)
			d.Owns(pick(), []api.Put{{Page: pick(), Obj: pick()}, {Page: pick(), Obj: pick()}})
			if n.below(20) == 0 {
				d.Gone(pick())
			}
			d.Copies(pick(), pick())
			d.Own(pick(), pick())
			checkSettled(t, d, nil)
		}
	}
	for _, kind := range numbers {
		for _, client := range numbers {
			desk.New().Handle(client, api.Msg{Kind: kind, Page: client, Obj: kind, Copy: client, Own: kind, Puts: puts})
		}
	}
}

// spoil writes over a list, its spare room too.
func spoil[T any](list []T, with T) {
	list = list[:cap(list)]
	for k := range list {
		list[k] = with
	}
}

// spoilActs writes over what was sent, and over what is in it.
func spoilActs(list []api.Act) {
	for _, a := range list {
		spoil(a.Msg.Puts, api.Put{Page: 1, Obj: 1, Value: 9})
	}
	spoil(list, api.Act{Client: 1, Msg: api.Msg{Kind: api.Release, Page: 2, Copy: all, Own: all, Puts: []api.Put{{Page: 1}}}})
}

// What Wants and Edges tell is new memory: written over, it changes neither the Desk nor another answer.
func TestWantsAndEdgesAreNewMemory(t *testing.T) {
	begin := func() *desk.Desk {
		d := filled(t)
		before := show(d)
		wants, edges := d.Wants(), d.Edges()
		spoil(d.Wants(), api.Want{Client: 0, Page: 5, Obj: 3, Write: true})
		spoil(d.Edges(), api.Edge{From: 0, To: 3})
		if show(d) != before {
			t.Errorf("what was told was written over, and with it the Desk: %+v", show(d))
		}
		if !slices.Equal(wants, []api.Want{toWrite(3, 2, 1), toRead(2, 2, 1), toRead(1, 0, 3)}) || !slices.Equal(edges, []api.Edge{{From: 3, To: 0}, {From: 2, To: 3}}) {
			t.Errorf("and with it what was told: %+v, %+v", wants, edges)
		}
		return d
	}
	checkOn(t, begin, filledPlain())
	// What was told stays, whatever comes behind it.
	d := begin()
	wants, edges := d.Wants(), d.Edges()
	for client := range clients {
		d.Gone(client)
	}
	if len(wants) != 3 || wants[0] != toWrite(3, 2, 1) || len(edges) != 2 || edges[0] != (api.Edge{From: 3, To: 0}) {
		t.Errorf("what was told is now %+v, %+v", wants, edges)
	}
}

// What Handle and Gone tell is new memory: rows in which it is written over each time lead to the same.
func TestActsAreNewMemory(t *testing.T) {
	n := noise(4711)
	for round := range 20 {
		d, p := desk.New(), &plain{}
		var open, last, kept []api.Act
		for range 200 {
			s := n.says(1+round%3, 1+round%objs, &open)
			got, want := s.do(d), s.do(p)
			if !sameActs(got, want) || show(d) != show(p) {
				t.Fatalf("%+v: sent is %+v, not %+v", s, got, want)
			}
			if !sameActs(last, kept) {
				t.Fatalf("what was sent earlier is %+v now, not %+v", last, kept)
			}
			for _, a := range want {
				if a.Msg.Kind == api.Call {
					open = append(open, a)
				}
			}
			if n.below(2) == 0 {
				last, kept = got, want
			} else {
				spoilActs(got)
			}
		}
	}
}

// What is handed in isn't changed, spare room included, and isn't kept.
func TestHandedIn(t *testing.T) {
	whole := []api.Put{{Page: 0, Obj: 1, Value: 1i}, {Page: 0, Obj: 2, Value: 2}, {Page: 4, Obj: 3, Value: 3}, {Page: 5, Obj: 0, Value: 4i}}
	begin := func() *desk.Desk {
		d := filled(t)
		puts := slices.Clone(whole)
		if !d.Owns(0, puts[:2]) || d.Owns(0, puts[:3]) {
			t.Error("Owns")
		}
		m := api.Msg{Kind: api.Commit, Txn: 3, Puts: puts[:2]}
		says(t, d, 0, m)
		if !slices.Equal(puts, whole) || !msg.Same(m, api.Msg{Kind: api.Commit, Txn: 3, Puts: whole[:2]}) {
			t.Errorf("what was handed in is %+v", puts)
		}
		spoil(puts, api.Put{Page: 2, Obj: 1, Value: 7})
		return d
	}
	checkOn(t, begin, filledPlain())
}

// rowOf is a row of calls that hangs on where the noise begins alone, and all that is told on the way.
func rowOf(seed int, between func()) ([]shown, [][]api.Act) {
	n := noise(1 + 977*seed)
	d := desk.New()
	var list []shown
	var sent [][]api.Act
	var open []api.Act
	for range 60 {
		between()
		s := n.says(2, 2, &open)
		acts := s.do(d)
		for _, a := range acts {
			if a.Msg.Kind == api.Call {
				open = append(open, a)
			}
		}
		list = append(list, show(d))
		sent = append(sent, acts)
	}
	return list, sent
}

// P2: what a Desk answers hangs on the calls to it alone, whatever other Desks are asked for in between.
func TestDesksAreApart(t *testing.T) {
	for seed := range 30 {
		first, firstSent := rowOf(seed, func() {})
		other, n := desk.New(), noise(seed+5)
		var open []api.Act
		again, againSent := rowOf(seed, func() {
			n.says(2, 2, &open).do(other)
			desk.New().Handle(seed%clients, write(0, 0))
		})
		if !slices.Equal(first, again) || !slices.EqualFunc(firstSent, againSent, sameActs) {
			t.Errorf("row %d: other answers the second time", seed)
		}
	}
}

// P2: asking changes nothing, neither what is told nor what comes behind it.
func TestAskingChangesNothing(t *testing.T) {
	begin := func() *desk.Desk {
		d := filled(t)
		before := show(d)
		for range 3 {
			if show(d) != before {
				t.Fatal("asked again, it tells something else")
			}
		}
		return d
	}
	checkOn(t, begin, filledPlain())
}
