package table_test

import (
	"slices"
	"testing"

	"cloakroom/table"
)

const (
	clients = 4
	pages   = 6
	objs    = 4
	all     = 15
)

// has is what a client has of a page.
type has struct{ copies, own int }

// allHas are all that a client can have of a page: of each object nothing, a copy, or all.
func allHas() []has {
	var list []has
	for copies := range all + 1 {
		for own := range all + 1 {
			if own&^copies == 0 {
				list = append(list, has{copies, own})
			}
		}
	}
	return list
}

// give lets a client have something, which nobody may hinder.
func give(t *testing.T, x *table.Table, client, page int, h has) {
	t.Helper()
	if !x.Grant(client, page, h.copies, h.own) {
		t.Fatalf("Grant of %+v to client %d of page %d is refused", h, client, page)
	}
	checkHas(t, x, client, page, h)
}

func checkHas(t *testing.T, x *table.Table, client, page int, want has) {
	t.Helper()
	if copies, own := x.Copies(client, page), x.Own(client, page); copies != want.copies || own != want.own {
		t.Errorf("client %d has %d of page %d and owns %d, not %+v", client, copies, page, own, want)
	}
}

func checkGrant(t *testing.T, x *table.Table, client, page, copies, own int, want bool) {
	t.Helper()
	before := show(x)
	if ok := x.Grant(client, page, copies, own); ok != want {
		t.Errorf("Grant %d %d %d %d: %t", client, page, copies, own, ok)
	}
	if !want && show(x) != before {
		t.Errorf("Grant %d %d %d %d was refused and has changed something", client, page, copies, own)
	}
}

func checkHolders(t *testing.T, x *table.Table, client, page, obj int, write bool, want ...int) {
	t.Helper()
	if list := x.Holders(client, page, obj, write); !slices.Equal(list, want) {
		t.Errorf("Holders %d %d %d %t: %d, not %d", client, page, obj, write, list, want)
	}
}

// P12.1, P12.2: nobody has anything.
func TestNew(t *testing.T) {
	x := table.New()
	for client := range clients {
		for page := range pages {
			checkHas(t, x, client, page, has{})
			if x.Free(client, page) != all || !x.Alone(client, page) {
				t.Errorf("client %d, page %d: free %d, alone %t", client, page, x.Free(client, page), x.Alone(client, page))
			}
			for obj := range objs {
				checkHolders(t, x, client, page, obj, false)
				checkHolders(t, x, client, page, obj, true)
			}
		}
	}
}

// The chapter's example.
func TestExample(t *testing.T) {
	x := table.New()
	give(t, x, 0, 2, has{2, 0})
	checkGrant(t, x, 1, 2, 0, 2, false)
	checkGrant(t, x, 1, 2, 2, 2, false)
	checkGrant(t, x, 1, 2, 2, 0, true)
	checkHas(t, x, 0, 2, has{2, 0})
	checkHas(t, x, 1, 2, has{2, 0})
	checkGrant(t, x, 1, 2, 0, 2, false)
	checkGrant(t, x, 0, 2, 0, 2, false)
	x.Drop(0, 2, 2, 0)
	checkGrant(t, x, 1, 2, 0, 2, true)
	checkHas(t, x, 1, 2, has{2, 2})
	checkGrant(t, x, 0, 2, 2, 0, false)
}

// P12.1: what nobody hinders is had: copies alone, own alone, both, neither, by every client and of every page; what is
// in own alone is a copy too.
func TestGrantAllMasks(t *testing.T) {
	for client := range clients {
		for page := range pages {
			for copies := range all + 1 {
				for own := range all + 1 {
					x := table.New()
					checkGrant(t, x, client, page, copies, own, true)
					want := plain{}
					for k := range objs {
						want.has[client][page][k] = had{(copies|own)>>k&1 == 1, own>>k&1 == 1}
					}
					if show(x) != show(&want) {
						t.Fatalf("Grant %d %d %d %d: %+v", client, page, copies, own, show(x))
					}
				}
			}
		}
	}
}

// P12.1: a Grant is refused where another client owns an object of copies or own, or has a copy of one of own, for all
// that another can have and all that can be asked for.
func TestGrantAgainstAnother(t *testing.T) {
	for _, pair := range [][2]int{{0, 1}, {1, 0}, {0, 3}, {3, 0}, {2, 1}, {1, 2}} {
		client, other := pair[0], pair[1]
		for _, h := range allHas() {
			for copies := range all + 1 {
				for own := range all + 1 {
					x := table.New()
					give(t, x, other, 4, h)
					want := h.own&copies == 0 && h.own&own == 0 && h.copies&own == 0
					checkGrant(t, x, client, 4, copies, own, want)
					checkHas(t, x, other, 4, h)
					if want {
						checkHas(t, x, client, 4, has{copies | own, own})
					} else {
						checkHas(t, x, client, 4, has{})
					}
				}
			}
		}
	}
}

// P12.1: each of several others may refuse, the last one as well as the first.
func TestGrantAgainstSeveral(t *testing.T) {
	for client := range clients {
		for other := range clients {
			if other == client {
				continue
			}
			x := table.New()
			for c := range clients {
				give(t, x, c, 0, has{1, 0})
			}
			give(t, x, other, 0, has{3, 2})
			checkGrant(t, x, client, 0, 2, 0, false)
			checkGrant(t, x, client, 0, 0, 2, false)
			checkGrant(t, x, client, 0, 6, 0, false)
			checkGrant(t, x, client, 0, 4, 2, false)
			checkGrant(t, x, client, 0, 4, 1, false)
			checkHas(t, x, client, 0, has{1, 0})
			checkGrant(t, x, client, 0, 4, 8, true)
			checkHas(t, x, client, 0, has{13, 8})
			checkHas(t, x, other, 0, has{3, 2})
		}
	}
}

// P12.1: what others have of another page, or of another object, hinders nobody.
func TestGrantBesideAnother(t *testing.T) {
	for page := range pages {
		x := table.New()
		for p := range pages {
			if p != page {
				give(t, x, (p+1)%clients, p, has{all, all})
			}
		}
		for client := range clients {
			checkGrant(t, x, client, page, all, all, true)
			checkHas(t, x, client, page, has{all, all})
			x.Drop(client, page, all, 0)
		}
	}
	for obj := range objs {
		x := table.New()
		mask := 1 << obj
		give(t, x, 0, 5, has{all &^ mask, all &^ mask})
		checkGrant(t, x, 3, 5, mask, mask, true)
		checkHas(t, x, 0, 5, has{all &^ mask, all &^ mask})
		checkHas(t, x, 3, 5, has{mask, mask})
	}
}

// P12.1: what is granted is put to what the client had, on that page alone, and nothing is taken away, for all that it
// can have had.
func TestGrantIsPutToWhatWasHad(t *testing.T) {
	for _, h := range allHas() {
		for copies := range all + 1 {
			for own := range all + 1 {
				x := table.New()
				give(t, x, 2, 3, h)
				give(t, x, 2, 4, has{6, 2})
				checkGrant(t, x, 2, 3, copies, own, true)
				checkHas(t, x, 2, 3, has{h.copies | copies | own, h.own | own})
				checkHas(t, x, 2, 4, has{6, 2})
				checkHas(t, x, 2, 2, has{})
			}
		}
	}
}

// P12.1: a refused Grant gives nothing of what it asks for, not even what nobody hinders.
func TestRefusedGrantGivesNothing(t *testing.T) {
	x := table.New()
	give(t, x, 0, 1, has{8, 8})
	give(t, x, 2, 1, has{4, 0})
	give(t, x, 1, 1, has{1, 1})
	checkGrant(t, x, 1, 1, all, 0, false)
	checkGrant(t, x, 1, 1, 2, 4, false)
	checkGrant(t, x, 1, 1, 2, 8, false)
	checkGrant(t, x, 1, 1, 8, 2, false)
	checkHas(t, x, 1, 1, has{1, 1})
	checkGrant(t, x, 1, 1, 4, 2, true)
	checkHas(t, x, 1, 1, has{7, 3})
}

// P12.1: a client may give all it has to itself again, whatever others have beside it.
func TestGrantAgain(t *testing.T) {
	x := table.New()
	give(t, x, 0, 0, has{7, 4})
	give(t, x, 1, 0, has{11, 8})
	for range 2 {
		checkGrant(t, x, 0, 0, 7, 4, true)
		checkGrant(t, x, 1, 0, 11, 8, true)
		checkGrant(t, x, 0, 0, 0, 0, true)
		checkHas(t, x, 0, 0, has{7, 4})
		checkHas(t, x, 1, 0, has{11, 8})
	}
}

// P12.1: Drop of copies, of own, of both and of neither, also of what the client hasn't, for all that it can have.
func TestDrop(t *testing.T) {
	for _, h := range allHas() {
		for copies := range all + 1 {
			for own := range all + 1 {
				x := table.New()
				give(t, x, 1, 2, h)
				give(t, x, 1, 3, has{all, 9})
				give(t, x, 3, 2, has{all &^ h.copies, all &^ h.copies})
				x.Drop(1, 2, copies, own)
				checkHas(t, x, 1, 2, has{h.copies &^ copies, h.own &^ copies &^ own})
				checkHas(t, x, 1, 3, has{all, 9})
				checkHas(t, x, 3, 2, has{all &^ h.copies, all &^ h.copies})
			}
		}
	}
}

// P12.1: what is dropped others may have, and no more than that.
func TestWhatIsDroppedOthersMayHave(t *testing.T) {
	x := table.New()
	give(t, x, 0, 0, has{all, all})
	x.Drop(0, 0, 0, 1)
	checkHas(t, x, 0, 0, has{15, 14})
	checkGrant(t, x, 1, 0, 0, 1, false)
	checkGrant(t, x, 1, 0, 3, 0, false)
	checkGrant(t, x, 1, 0, 1, 0, true)
	x.Drop(0, 0, 2, 0)
	checkHas(t, x, 0, 0, has{13, 12})
	checkGrant(t, x, 1, 0, 2, 2, true)
	checkGrant(t, x, 0, 0, 0, 1, false)
	x.Drop(1, 0, 1, 0)
	checkGrant(t, x, 0, 0, 0, 1, true)
	checkHas(t, x, 0, 0, has{13, 13})
	checkHas(t, x, 1, 0, has{2, 2})
}

// P12.1: the client has nothing of any page, and no other client has less.
func TestClear(t *testing.T) {
	for client := range clients {
		x := table.New()
		for page := range pages {
			for c := range clients {
				give(t, x, c, page, has{1 << c, page % 2 << c})
			}
		}
		x.Clear(client)
		for page := range pages {
			for c := range clients {
				want := has{1 << c, page % 2 << c}
				if c == client {
					want = has{}
				}
				checkHas(t, x, c, page, want)
			}
		}
		for c := range clients {
			x.Clear(c)
		}
		if show(x) != show(table.New()) {
			t.Error("all were cleared, and something is left")
		}
	}
}

// P12.1: behind a Clear all may be had, by the client itself and by others.
func TestAllMayBeHadBehindClear(t *testing.T) {
	for client := range clients {
		x := table.New()
		for page := range pages {
			give(t, x, client, page, has{all, all})
		}
		x.Clear(client)
		x.Clear(client)
		for page := range pages {
			checkHas(t, x, client, page, has{})
			give(t, x, (client+page)%clients, page, has{all, all})
		}
	}
}

// P12.2: each client and page has masks of its own.
func TestCopiesAndOwnOfEach(t *testing.T) {
	x := table.New()
	// Each has one object of each page that is no other's, and owns it on every second page.
	at := func(client, page int) has {
		obj := (client + page) % objs
		return has{1 << obj, page % 2 << obj}
	}
	for client := range clients {
		for page := range pages {
			give(t, x, client, page, at(client, page))
		}
	}
	for client := range clients {
		for page := range pages {
			checkHas(t, x, client, page, at(client, page))
		}
	}
}

// P12.2: Holders, with and without write, rising, never the client itself.
func TestHolders(t *testing.T) {
	x := table.New()
	for _, client := range []int{3, 0, 2} {
		give(t, x, client, 1, has{4, 0})
	}
	checkHolders(t, x, 1, 1, 2, true, 0, 2, 3)
	checkHolders(t, x, 0, 1, 2, true, 2, 3)
	checkHolders(t, x, 2, 1, 2, true, 0, 3)
	checkHolders(t, x, 3, 1, 2, true, 0, 2)
	for client := range clients {
		checkHolders(t, x, client, 1, 2, false)
		for _, obj := range []int{0, 1, 3} {
			checkHolders(t, x, client, 1, obj, true)
		}
		for _, page := range []int{0, 2, 3, 4, 5} {
			checkHolders(t, x, client, page, 2, true)
		}
	}
	give(t, x, 1, 1, has{4, 0})
	checkHolders(t, x, 0, 1, 2, true, 1, 2, 3)
	give(t, x, 2, 5, has{8, 8})
	for _, client := range []int{0, 1, 3} {
		checkHolders(t, x, client, 5, 3, true, 2)
		checkHolders(t, x, client, 5, 3, false, 2)
		checkHolders(t, x, client, 5, 2, false)
		checkHolders(t, x, client, 4, 3, false)
	}
	checkHolders(t, x, 2, 5, 3, true)
	checkHolders(t, x, 2, 5, 3, false)
	x.Drop(2, 5, 0, 8)
	checkHolders(t, x, 0, 5, 3, false)
	checkHolders(t, x, 0, 5, 3, true, 2)
	x.Clear(2)
	checkHolders(t, x, 0, 5, 3, true)
	checkHolders(t, x, 0, 1, 2, true, 1, 3)
}

// P12.2: Free is what no other client owns: copies, and what the client itself owns, take nothing from it.
func TestFree(t *testing.T) {
	x := table.New()
	give(t, x, 0, 2, has{1, 1})
	give(t, x, 1, 2, has{6, 4})
	give(t, x, 2, 2, has{10, 8})
	for client, want := range []int{3, 6, 10, 2} {
		if got := x.Free(client, 2); got != want {
			t.Errorf("free to client %d: %d, not %d", client, got, want)
		}
		for _, page := range []int{0, 1, 3, 4, 5} {
			if got := x.Free(client, page); got != all {
				t.Errorf("free to client %d of page %d: %d", client, page, got)
			}
		}
	}
	x.Drop(1, 2, 0, 4)
	x.Drop(2, 2, 8, 0)
	for client, want := range []int{15, 14, 14, 14} {
		if got := x.Free(client, 2); got != want {
			t.Errorf("behind the Drops free to client %d: %d, not %d", client, got, want)
		}
	}
	for _, h := range allHas() {
		x := table.New()
		give(t, x, 3, 0, h)
		if got, own := x.Free(0, 0), x.Free(3, 0); got != all-h.own || own != all {
			t.Errorf("client 3 has %+v: free are %d, and to itself %d", h, got, own)
		}
	}
}

// P12.2: Alone is who no other has a copy beside, owned or not: what the client itself has doesn't matter.
func TestAlone(t *testing.T) {
	for client := range clients {
		for other := range clients {
			for _, h := range allHas() {
				x := table.New()
				give(t, x, other, 3, h)
				if got := x.Alone(client, 3); got != (client == other || h.copies == 0) {
					t.Errorf("client %d is alone: %t, where client %d has %+v", client, got, other, h)
				}
				if !x.Alone(client, 2) || !x.Alone(client, 4) {
					t.Errorf("client %d is not alone at a page that nobody has", client)
				}
			}
		}
	}
	x := table.New()
	give(t, x, 1, 0, has{1, 1})
	give(t, x, 2, 0, has{8, 0})
	for _, want := range [][clients]bool{{false, false, false, false}, {false, true, false, false}, {true, true, true, true}} {
		for client := range clients {
			if got := x.Alone(client, 0); got != want[client] {
				t.Errorf("client %d is alone: %t", client, got)
			}
		}
		// First the copy of client 2 is given up, and then that of client 1.
		if x.Copies(2, 0) != 0 {
			x.Drop(2, 0, 8, 0)
		} else {
			x.Clear(1)
		}
	}
}
