package table_test

import (
	"fmt"
	"math"
	"slices"
	"testing"

	"cloakroom/table"
)

// wrong are numbers that are no client, page, object or mask, where least is the first one above the greatest: those
// about the edges of 64 bits, and such as have the lowest bits of those that can be.
func wrong(least int) []int {
	return []int{math.MinInt, math.MinInt + 1, math.MinInt + 3, math.MinInt32, -1<<32 + 1, -256, -16, -15, -8, -2, -1, least, least + 1, 2*least + 1, 63, 64, 65,
		255, 256, 257, 1 << 31, 1 << 32, 1<<32 + 1, 1<<32 + 3, 1<<62 + 1, math.MaxInt - 1, math.MaxInt}
}

// filled is a table in which each client has something, and others copies and what they own beside it.
func filled(t *testing.T) *table.Table {
	t.Helper()
	x := table.New()
	give(t, x, 0, 0, has{1, 1})
	give(t, x, 1, 0, has{6, 2})
	give(t, x, 2, 0, has{4, 0})
	for client := range clients {
		give(t, x, client, 1+client, has{all, 1 << client})
		give(t, x, client, 5, has{1 << client, 1 << client})
	}
	return x
}

// checkRefused makes one call with something that can't be, which says whether it answered false, 0 or none.
func checkRefused(t *testing.T, x *table.Table, what string, call func() bool) {
	t.Helper()
	before := show(x)
	if !call() {
		t.Errorf("%s: not false, 0 or none", what)
	}
	if show(x) != before {
		t.Errorf("%s has changed something", what)
	}
}

// checkPlaceRefused makes all calls of a client and a page of which one can't be.
func checkPlaceRefused(t *testing.T, client, page int) {
	t.Helper()
	for _, x := range []*table.Table{table.New(), filled(t)} {
		at := fmt.Sprintf("at client %d, page %d ", client, page)
		for _, copies := range []int{0, 1, 2, all} {
			for _, own := range []int{0, 1, 8, all} {
				checkRefused(t, x, at+"Grant", func() bool { return !x.Grant(client, page, copies, own) })
				checkRefused(t, x, at+"Drop", func() bool { x.Drop(client, page, copies, own); return true })
			}
		}
		checkRefused(t, x, at+"Copies", func() bool { return x.Copies(client, page) == 0 })
		checkRefused(t, x, at+"Own", func() bool { return x.Own(client, page) == 0 })
		checkRefused(t, x, at+"Free", func() bool { return x.Free(client, page) == 0 })
		checkRefused(t, x, at+"Alone", func() bool { return !x.Alone(client, page) })
		for obj := range objs {
			checkRefused(t, x, at+"Holders to write", func() bool { return len(x.Holders(client, page, obj, true)) == 0 })
			checkRefused(t, x, at+"Holders to read", func() bool { return len(x.Holders(client, page, obj, false)) == 0 })
		}
	}
}

// P12.1, P12.2: a client that can't be.
func TestNoSuchClient(t *testing.T) {
	for _, client := range wrong(clients) {
		for page := range pages {
			checkPlaceRefused(t, client, page)
		}
		x := filled(t)
		checkRefused(t, x, fmt.Sprint("Clear ", client), func() bool { x.Clear(client); return true })
	}
}

// P12.1, P12.2: a page that can't be, and a page and a client.
func TestNoSuchPage(t *testing.T) {
	for _, page := range wrong(pages) {
		for client := range clients {
			checkPlaceRefused(t, client, page)
		}
		for _, client := range wrong(clients) {
			checkPlaceRefused(t, client, page)
		}
	}
}

// P12.2: an object that can't be.
func TestNoSuchObject(t *testing.T) {
	x := filled(t)
	for _, obj := range wrong(objs) {
		for client := range clients {
			for page := range pages {
				for _, write := range []bool{false, true} {
					what := fmt.Sprint("Holders ", client, page, obj, write)
					checkRefused(t, x, what, func() bool { return len(x.Holders(client, page, obj, write)) == 0 })
				}
			}
		}
	}
}

// P12.1: a mask that can't be, as copies, as own and as both: nothing of the other mask is granted or dropped.
func TestNoSuchMask(t *testing.T) {
	for _, mask := range wrong(all + 1) {
		for _, x := range []*table.Table{table.New(), filled(t)} {
			for client := range clients {
				for page := range pages {
					for _, masks := range [][2]int{{mask, 0}, {0, mask}, {mask, 1}, {8, mask}, {mask, all}, {all, mask}, {mask, mask}} {
						what := fmt.Sprint(client, page, masks)
						checkRefused(t, x, "Grant "+what, func() bool { return !x.Grant(client, page, masks[0], masks[1]) })
						checkRefused(t, x, "Drop "+what, func() bool { x.Drop(client, page, masks[0], masks[1]); return true })
					}
				}
			}
		}
	}
}

// P12.1, P12.2: the greatest and the least that can be are no wrong ones.
func TestEdgesThatCanBe(t *testing.T) {
	for _, client := range []int{0, clients - 1} {
		for _, page := range []int{0, pages - 1} {
			x := table.New()
			checkGrant(t, x, client, page, all, 0, true)
			checkGrant(t, x, client, page, 0, all, true)
			checkHas(t, x, client, page, has{all, all})
			for _, obj := range []int{0, objs - 1} {
				checkHolders(t, x, 1, page, obj, false, client)
				checkHolders(t, x, 1, page, obj, true, client)
			}
			if x.Free(1, page) != 0 || x.Alone(1, page) || x.Free(client, page) != all || !x.Alone(client, page) {
				t.Error(client, page, x.Free(1, page), x.Alone(1, page), x.Free(client, page), x.Alone(client, page))
			}
			x.Drop(client, page, 0, all)
			checkHas(t, x, client, page, has{all, 0})
			x.Drop(client, page, all, 0)
			checkHas(t, x, client, page, has{})
		}
	}
}

// What Holders tells is new memory: written over, its spare room too, it changes no later answer, nor one that was told.
func TestHoldersAreNewMemory(t *testing.T) {
	x := table.New()
	for client := range clients {
		give(t, x, client, 0, has{3, 0})
		give(t, x, client, 1, has{1 << client, 1 << client})
	}
	before := show(x)
	first, second := x.Holders(0, 0, 0, true), x.Holders(0, 0, 0, true)
	for _, list := range [][]int{first, x.Holders(3, 1, 1, false), x.Holders(2, 0, 1, true)} {
		for k := range list[:cap(list)] {
			list[:cap(list)][k] = 99
		}
	}
	if !slices.Equal(second, []int{1, 2, 3}) {
		t.Errorf("what was told is %d", second)
	}
	if show(x) != before {
		t.Error("other answers behind a change of what Holders told")
	}
	x.Clear(2)
	x.Grant(0, 0, 12, 12)
	if !slices.Equal(second, []int{1, 2, 3}) {
		t.Errorf("behind a Clear what was told is %d", second)
	}
}

// P1: every call ends without a panic at all arguments.
func TestAllArguments(t *testing.T) {
	x := filled(t)
	numbers := append(wrong(all+1), 0, 1, 3, 4, 5, 6, 15)
	for _, a := range numbers {
		x.Clear(a)
		for _, b := range numbers {
			x.Copies(a, b)
			x.Own(a, b)
			x.Free(a, b)
			x.Alone(a, b)
			for _, c := range numbers {
				x.Holders(a, b, c, false)
				x.Holders(a, b, c, true)
				for _, d := range numbers {
					x.Grant(a, b, c, d)
					x.Drop(a, b, d, c)
				}
			}
		}
	}
	checkOwners(t, x)
}

// row is a row of calls that hangs on where the noise begins alone, and all that is told on the way.
func row(seed int, between func()) [][clients][pages]shown {
	n := noise(1 + 977*seed)
	x := table.New()
	var list [][clients][pages]shown
	for range 60 {
		between()
		client, page, copies, own := n.below(clients), n.below(pages), n.below(all+1), n.below(all+1)
		switch n.below(8) {
		case 0:
			x.Clear(client)
		case 1, 2:
			x.Drop(client, page, copies, own)
		default:
			x.Grant(client, page, copies, copies&own)
		}
		list = append(list, show(x))
	}
	return list
}

// P2: what a table answers hangs on the calls to it alone, whatever other tables are asked for in between.
func TestTablesAreApart(t *testing.T) {
	for seed := range 30 {
		first := row(seed, func() {})
		other := table.New()
		again := row(seed, func() {
			other.Grant(seed%clients, seed%pages, all, seed%16)
			other.Grant((seed+1)%clients, (seed+1)%pages, seed%16, 0)
			other.Drop(seed%clients, seed%pages, 3, 1)
			table.New().Grant(1, 1, all, all)
		})
		if !slices.Equal(first, again) {
			t.Errorf("row %d: other answers the second time", seed)
		}
	}
}

// P2: asking changes nothing.
func TestAskingChangesNothing(t *testing.T) {
	x := filled(t)
	before := show(x)
	for range 3 {
		if show(x) != before {
			t.Fatal("asked again, it tells something else")
		}
	}
}
