package house_test

import (
	"cmp"
	"slices"
	"testing"

	"cloakroom/api"
)

// checkAlone: what a client owns whose session lives, no other one has a copy of whose session lives.
func checkAlone(t *testing.T, h anyHouse) {
	t.Helper()
	for page := range pages {
		for a := range clients {
			own := h.Own(a, page)
			if own&^h.Copies(a, page) != 0 {
				t.Fatalf("client %d owns %d of page %d, and has copies of %d", a, own, page, h.Copies(a, page))
			}
			for b := range clients {
				if a != b && h.Live(a) && h.Live(b) && own&h.Copies(b, page) != 0 {
					t.Fatalf("client %d owns %d of page %d, and client %d has copies of %d", a, own, page, b, h.Copies(b, page))
				}
			}
		}
	}
}

// place is that of an object.
type place struct{ page, obj int }

// finals is what a transaction wrote last into each object.
func finals(d api.Deal) []api.Put {
	last := map[place]complex128{}
	for _, k := range d.Deeds {
		if k.Write {
			last[place{k.Page, k.Obj}] = k.Value
		}
	}
	var list []api.Put
	for at, v := range last {
		list = append(list, put(at.page, at.obj, v))
	}
	slices.SortFunc(list, func(a, b api.Put) int {
		return cmp.Or(cmp.Compare(a.Page, b.Page), cmp.Compare(a.Obj, b.Obj))
	})
	return list
}

// readsRight tells whether a transaction read what it wrote itself, or else these values.
func readsRight(d api.Deal, values map[place]complex128) bool {
	own := map[place]complex128{}
	for _, k := range d.Deeds {
		at := place{k.Page, k.Obj}
		if k.Write {
			own[at] = k.Value
			continue
		}
		want, wrote := own[at]
		if !wrote {
			want = values[at]
		}
		if k.Value != want {
			return false
		}
	}
	return true
}

// whose is that of a transaction.
type whose struct{ client, epoch, txn int }

// checkHistory: the log's order is a serial one; each Deal that is Done is LOGGED, and once; who began behind another one's end is
// behind it on the log, if that was Done; and the pages, while the server is up, are what the log leads to.
func checkHistory(t *testing.T, h anyHouse, list []api.Page) {
	t.Helper()
	deals := map[whose]api.Deal{}
	for _, d := range h.Deals() {
		deals[whose{d.Client, d.Epoch, d.Txn}] = d
	}
	if len(deals) != len(h.Deals()) {
		t.Fatal("two transactions are one's")
	}
	values := map[place]complex128{}
	logged := map[whose]int{}
	var want [pages]api.Page
	for _, b := range h.Logged() {
		of := whose{b.Client, b.Epoch, b.Txn}
		d, there := deals[of]
		if !there || logged[of] > 0 {
			t.Fatalf("%+v has no transaction, or is logged twice", b)
		}
		logged[of] = b.LSN
		if !samePuts(b.Puts, finals(d)) || !readsRight(d, values) {
			t.Fatalf("%+v is logged as %+v behind %v", d, b, values)
		}
		for _, p := range b.Puts {
			values[place{p.Page, p.Obj}] = p.Value
			want[p.Page].LSN, want[p.Page].Objs[p.Obj] = b.LSN, p.Value
		}
	}
	checkOrder(t, h, logged)
	if h.HostUp() && !slices.Equal(list, want[:]) {
		t.Fatalf("the pages are\n%+v, not\n%+v", list, want)
	}
}

// checkOrder looks at the Deals that are Done, by where they are on the log.
func checkOrder(t *testing.T, h anyHouse, logged map[whose]int) {
	t.Helper()
	list := h.Deals()
	for _, d := range list {
		lsn := logged[whose{d.Client, d.Epoch, d.Txn}]
		if d.State != api.DealDone {
			continue
		}
		if lsn == 0 {
			t.Fatalf("%+v isn't logged", d)
		}
		for _, other := range list {
			at := logged[whose{other.Client, other.Epoch, other.Txn}]
			if at > 0 && other.Began > d.Ended && at < lsn {
				t.Fatalf("%+v is on the log behind %+v", d, other)
			}
		}
	}
}
