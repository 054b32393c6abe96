package cache_test

import (
	"slices"
	"testing"

	"cloakroom/cache"
	"cloakroom/cnum"
)

// kept is what a client has of an object.
type kept struct {
	copied, owned bool
	value         complex128
}

// plain is a cache as the chapter tells it, object by object: a page is there while one of its objects is a copy, and of
// each page it is known when it was used last.
type plain struct {
	room, time int
	used       [pages]int
	objs       [pages][objs]kept
}

func newPlain(many int) *plain {
	switch {
	case many < 1:
		return &plain{room: 1}
	case many > pages:
		return &plain{room: pages}
	}
	return &plain{room: many}
}

func (p *plain) there(page int) bool {
	return p.Copies(page) > 0
}

func (p *plain) use(page int) {
	p.time++
	p.used[page] = p.time
}

func (p *plain) Put(page, copies, own int, values [objs]complex128, keep []int) (int, bool) {
	if !canPut(page, copies, own) {
		return -1, false
	}
	went := -1
	if list := p.Pages(); !p.there(page) && copies > 0 && len(list) == p.room {
		for _, other := range slices.Backward(list) {
			if !slices.Contains(keep, other) {
				went = other
			}
		}
		if went < 0 {
			return -1, false
		}
		p.objs[went] = [objs]kept{}
	}
	for k := range objs {
		o := &p.objs[page][k]
		o.copied, o.owned = copies>>k&1 == 1, own>>k&1 == 1
		if o.copied {
			o.value = values[k]
		}
	}
	p.use(page)
	return went, true
}

func (p *plain) Get(page, obj int) (complex128, bool) {
	if !canBe(page, obj) || !p.objs[page][obj].copied {
		return 0, false
	}
	p.use(page)
	return p.objs[page][obj].value, true
}

func (p *plain) Set(page, obj int, v complex128) bool {
	if !canBe(page, obj) || !p.objs[page][obj].owned {
		return false
	}
	p.use(page)
	p.objs[page][obj].value = v
	return true
}

func (p *plain) Drop(page, copies, own int) {
	if !canBe(page, 0) || copies < 0 || copies > all || own < 0 || own > all {
		return
	}
	for k := range objs {
		o := &p.objs[page][k]
		if copies>>k&1 == 1 {
			o.copied, o.owned = false, false
		}
		if own>>k&1 == 1 {
			o.owned = false
		}
	}
}

func (p *plain) Copies(page int) int {
	mask := 0
	for k := range objs {
		if canBe(page, k) && p.objs[page][k].copied {
			mask += 1 << k
		}
	}
	return mask
}

func (p *plain) Own(page int) int {
	mask := 0
	for k := range objs {
		if canBe(page, k) && p.objs[page][k].owned {
			mask += 1 << k
		}
	}
	return mask
}

func (p *plain) Pages() []int {
	var list []int
	for page := range pages {
		if p.there(page) {
			list = append(list, page)
		}
	}
	slices.SortFunc(list, func(a, b int) int { return p.used[a] - p.used[b] })
	return list
}

func (p *plain) Clear() {
	p.objs = [pages][objs]kept{}
}

func canBe(page, obj int) bool {
	return page >= 0 && page < pages && obj >= 0 && obj < objs
}

func canPut(page, copies, own int) bool {
	if !canBe(page, 0) || copies < 0 || copies > all || own < 0 || own > all {
		return false
	}
	for k := range objs {
		if own>>k&1 > copies>>k&1 {
			return false
		}
	}
	return true
}

// anyCache is a cache, or a plain one.
type anyCache interface {
	Put(page, copies, own int, values [objs]complex128, keep []int) (int, bool)
	Get(page, obj int) (complex128, bool)
	Set(page, obj int, v complex128) bool
	Drop(page, copies, own int)
	Copies(page int) int
	Own(page int) int
	Pages() []int
	Clear()
}

// shownPage is all that is told of a page; a value is told by the bits of its parts.
type shownPage struct {
	copies, own int
	got         [objs]bool
	bits        [objs][2]uint64
}

// shown is all that is told of a cache; its order has a page's number and one in each place, 0 where there is none.
type shown struct {
	order [pages + 1]int
	pages [pages]shownPage
}

// show asks for all that there is. A value can't be had but by use of its page: all are used, in the order in which they
// were, and so are in the same order behind it.
func show(x anyCache) shown {
	var s shown
	for page := range pages {
		s.pages[page].copies, s.pages[page].own = x.Copies(page), x.Own(page)
	}
	list := x.Pages()
	for at, page := range list {
		s.order[at] = page + 1
	}
	for page := range pages {
		if !slices.Contains(list, page) {
			list = append(list, page)
		}
	}
	for _, page := range list {
		for k := range objs {
			v, ok := x.Get(page, k)
			s.pages[page].got[k] = ok
			s.pages[page].bits[k][0], s.pages[page].bits[k][1] = cnum.Bits(v)
		}
	}
	return s
}

// noise is a row of numbers that hangs on where it begins alone.
type noise uint64

func (n *noise) below(many int) int {
	*n ^= *n << 13
	*n ^= *n >> 7
	*n ^= *n << 17
	return int(uint64(*n) % uint64(many))
}

// answer is what a call told, zero where it tells nothing of that kind.
type answer struct {
	went   int
	ok     bool
	re, im uint64
}

// deed is one call.
type deed struct {
	kind, page, obj, copies, own int
	values                       [objs]complex128
	keep                         []int
}

const (
	put = iota
	get
	set
	drop
	wipe
)

func (d deed) do(x anyCache) answer {
	var a answer
	switch d.kind {
	case put:
		a.went, a.ok = x.Put(d.page, d.copies, d.own, d.values, d.keep)
	case get:
		var v complex128
		v, a.ok = x.Get(d.page, d.obj)
		a.re, a.im = cnum.Bits(v)
	case set:
		a.ok = x.Set(d.page, d.obj, d.values[0])
	case drop:
		x.Drop(d.page, d.copies, d.own)
	case wipe:
		x.Clear()
	}
	return a
}

// deed is one call of the first ones of the pages; a few of its numbers can't be.
func (n *noise) deed(many int) deed {
	d := deed{page: n.below(many), obj: n.below(objs), copies: n.below(all + 1), own: n.below(all + 1)}
	for k := range d.values {
		d.values[k] = complex(float64(n.below(1000)), float64(n.below(1000)))
	}
	for range n.below(many + 1) {
		d.keep = append(d.keep, n.below(many+2)-1)
	}
	switch n.below(40) {
	case 0:
		d.page = n.below(2)*(pages+1) - 1
	case 1:
		d.obj = n.below(2)*(objs+1) - 1
	case 2:
		d.copies = n.below(2)*(all+2) - 1
	case 3:
		d.own = n.below(2)*(all+2) - 1
	case 4:
		d.kind = wipe
		return d
	}
	switch kind := n.below(20); {
	case kind < 8:
		d.kind = put
		if n.below(10) > 0 {
			d.own &= d.copies
		}
	case kind < 12:
		d.kind = get
	case kind < 16:
		d.kind = set
	default:
		d.kind = drop
		d.copies &= n.below(all + 1)
	}
	return d
}

// both does one thing to a cache and to a plain one, and holds what they answer and tell against each other.
func both(t *testing.T, c *cache.Cache, p *plain, d deed) answer {
	t.Helper()
	a, want := d.do(c), d.do(p)
	if a != want {
		t.Fatalf("%+v: %+v, not %+v", d, a, want)
	}
	if got, want := show(c), show(p); got != want {
		t.Fatalf("behind %+v: %+v, not %+v", d, got, want)
	}
	return a
}

// seen is how often each kind of call was made, and how often with each kind of answer.
type seen struct {
	made, done, refused [wipe + 1]int
	gone                int
}

func (s *seen) look(d deed, a answer) {
	s.made[d.kind]++
	switch {
	case a.ok && d.kind == put && a.went >= 0:
		s.gone++
	case a.ok:
		s.done[d.kind]++
	case d.kind != put || canPut(d.page, d.copies, d.own):
		s.refused[d.kind]++
	}
}

// check asks whether the rows had enough of everything to tell something.
func (s *seen) check(t *testing.T) {
	t.Helper()
	list := append(s.made[:], s.gone)
	for _, kind := range []int{put, get, set} {
		list = append(list, s.done[kind], s.refused[kind])
	}
	if slices.Min(list) < 500 {
		t.Errorf("too little of some kind: %+v", *s)
	}
}

// P16.1, P16.2: long rows of all calls mixed, in all rooms and of one page up to all, held against a plain cache.
func TestLongRows(t *testing.T) {
	n := noise(88172645463325252)
	var s seen
	for round := range 144 {
		room, many := round%(pages+2), 1+round/(pages+2)%pages
		c, p := cache.New(room), newPlain(room)
		for range 400 {
			d := n.deed(many)
			s.look(d, both(t, c, p, d))
		}
	}
	s.check(t)
}

// fewDeeds are calls of three pages, and of two objects of each.
func fewDeeds() []deed {
	var list []deed
	for page := range 3 {
		at := complex(float64(page), 1)
		values := [objs]complex128{at, 2 * at, 3 * at, 4 * at}
		for _, masks := range [][2]int{{0, 0}, {1, 0}, {3, 2}, {2, 3}} {
			list = append(list, deed{kind: put, page: page, copies: masks[0], own: masks[1], values: values})
		}
		list = append(list,
			deed{kind: put, page: page, copies: 3, own: 3, values: values, keep: []int{(page + 1) % 3}},
			deed{kind: put, page: page, copies: 2, values: values, keep: []int{0, 1, 2}},
			deed{kind: get, page: page, obj: 0},
			deed{kind: get, page: page, obj: 1},
			deed{kind: set, page: page, obj: 1, values: [objs]complex128{9}},
			deed{kind: drop, page: page, copies: 1},
			deed{kind: drop, page: page, own: 2},
			deed{kind: drop, page: page, copies: 2, own: 1})
	}
	return append(list, deed{kind: wipe})
}

// P16.1, P16.2: all that can come of three calls out of few, in rooms of one and of two, behind two pages that were put.
func TestShortRows(t *testing.T) {
	list := fewDeeds()
	begin := []deed{
		{kind: put, page: 0, copies: 3, own: 1, values: [objs]complex128{5, 6, 7, 8}},
		{kind: put, page: 1, copies: 3, own: 2, values: [objs]complex128{8, 7, 6, 5}},
	}
	for room := 1; room <= 2; room++ {
		for _, first := range list {
			for _, second := range list {
				for _, third := range list {
					c, p := cache.New(room), newPlain(room)
					for _, d := range append(begin, first, second, third) {
						if a, want := d.do(c), d.do(p); a != want {
							t.Fatalf("%+v in %+v, %+v, %+v: %+v, not %+v", d, first, second, third, a, want)
						}
					}
					if got, want := show(c), show(p); got != want {
						t.Fatalf("behind %+v, %+v, %+v: %+v, not %+v", first, second, third, got, want)
					}
				}
			}
		}
	}
}
