package desk_test

import (
	"testing"

	"cloakroom/api"
	"cloakroom/desk"
)

// P15.3: of each Want in its order to each Holder, rising, that was called for it and is busy; one that hasn't said
// anything isn't among them.
func TestEdgesToHolders(t *testing.T) {
	d := readBy(t, 3, 0, 1, 2)
	says(t, d, 3, write(3, 0), call(0, 3, 0, true), call(1, 3, 0, true), call(2, 3, 0, true))
	checkEdges(t, d)
	says(t, d, 2, busy(3, 0, true))
	checkEdges(t, d, api.Edge{From: 3, To: 2})
	says(t, d, 0, busy(3, 0, true))
	checkEdges(t, d, api.Edge{From: 3, To: 0}, api.Edge{From: 3, To: 2})
	says(t, d, 1, busy(3, 0, true))
	checkEdges(t, d, api.Edge{From: 3, To: 0}, api.Edge{From: 3, To: 1}, api.Edge{From: 3, To: 2})
	says(t, d, 0, release(3, 1, 0))
	checkEdges(t, d, api.Edge{From: 3, To: 1}, api.Edge{From: 3, To: 2})
	says(t, d, 1, release(3, 14, 0))
	checkEdges(t, d, api.Edge{From: 3, To: 1}, api.Edge{From: 3, To: 2})
}

// P15.3: behind the Holders those that are Ahead; the Call of one that is Ahead is one for all that want the same.
func TestEdgesToThoseAhead(t *testing.T) {
	d := readBy(t, 3, 0)
	says(t, d, 2, write(3, 0), call(0, 3, 0, true))
	says(t, d, 3, write(3, 0))
	says(t, d, 1, read(3, 0))
	checkEdges(t, d, api.Edge{From: 3, To: 2}, api.Edge{From: 1, To: 2}, api.Edge{From: 1, To: 3})
	says(t, d, 0, busy(3, 0, true))
	checkEdges(t, d, api.Edge{From: 2, To: 0}, api.Edge{From: 3, To: 0}, api.Edge{From: 3, To: 2}, api.Edge{From: 1, To: 2}, api.Edge{From: 1, To: 3})
	goes(t, d, 2)
	checkEdges(t, d, api.Edge{From: 3, To: 0}, api.Edge{From: 1, To: 3})
}

// P15.3: one that is a busy Holder, and Ahead, is told twice.
func TestEdgesTwice(t *testing.T) {
	d := readBy(t, 3, 0, 1)
	says(t, d, 2, write(3, 0), call(0, 3, 0, true), call(1, 3, 0, true))
	says(t, d, 0, busy(3, 0, true))
	says(t, d, 1, busy(3, 0, true))
	goes(t, d, 2)
	says(t, d, 1, write(3, 0))
	says(t, d, 3, write(3, 0))
	checkEdges(t, d, api.Edge{From: 1, To: 0}, api.Edge{From: 3, To: 0}, api.Edge{From: 3, To: 1}, api.Edge{From: 3, To: 1})
}

// P15.3: a Holder that is busy for a Call of the other Write, or for another object, isn't waited for.
func TestEdgesOfThatCallAlone(t *testing.T) {
	d := ownedBy(t, 3, 0)
	says(t, d, 1, read(3, 0), call(0, 3, 0, false))
	says(t, d, 0, busy(3, 0, false))
	checkEdges(t, d, api.Edge{From: 1, To: 0})
	says(t, d, 2, write(3, 0))
	checkEdges(t, d, api.Edge{From: 1, To: 0}, api.Edge{From: 2, To: 1})
	says(t, d, 3, read(3, 1), call(0, 3, 1, false))
	checkEdges(t, d, api.Edge{From: 1, To: 0}, api.Edge{From: 2, To: 1})
	goes(t, d, 1, call(0, 3, 0, true))
	checkEdges(t, d)
	says(t, d, 0, busy(3, 0, true))
	checkEdges(t, d, api.Edge{From: 2, To: 0})
}

// P15.3: Owns of no Puts, of such as are owned, each and all at once, and of one among them that isn't.
func TestOwns(t *testing.T) {
	d := ownedBy(t, 3, 1)
	says(t, d, 1, write(5, 0), grant(1, 5, all, all))
	says(t, d, 1, release(5, 0, 13))
	says(t, d, 2, write(4, 0), grant(2, 4, all, all))
	var owned []api.Put
	for client := range clients {
		if !d.Owns(client, nil) || !d.Owns(client, []api.Put{}) {
			t.Errorf("%d doesn't own each of no Puts", client)
		}
		for page := range pages {
			for obj := range objs {
				p := api.Put{Page: page, Obj: obj, Value: 3i}
				want := client == 1 && (page == 3 || page == 5 && obj == 1) || client == 2 && page == 4
				if d.Owns(client, []api.Put{p}) != want {
					t.Errorf("%d owns %+v: %t", client, p, !want)
				}
				if want && client == 1 {
					owned = append(owned, p)
				}
			}
		}
	}
	if len(owned) != 5 || !d.Owns(1, owned) || !d.Owns(1, append(owned[:5:5], owned...)) || d.Owns(2, owned) {
		t.Errorf("all of %+v", owned)
	}
	for k := range owned {
		for _, other := range []api.Put{{Page: 5, Obj: 0}, {Page: 4, Obj: 1}, {Page: 0, Obj: 0}} {
			list := append([]api.Put(nil), owned...)
			list[k] = other
			if d.Owns(1, list) {
				t.Errorf("1 owns %+v", list)
			}
		}
	}
}

// P15.3: Gone of one that has copies, owns, waits and was called: nothing of it is left, and what others have stays.
func TestGone(t *testing.T) {
	busyOne := func() *desk.Desk {
		d := ownedBy(t, 0, 1)
		says(t, d, 0, read(2, 0), grant(0, 2, all, 0))
		says(t, d, 1, read(2, 0), grant(1, 2, all, 0))
		says(t, d, 2, write(4, 3), grant(2, 4, all, all))
		says(t, d, 0, read(0, 1), call(1, 0, 1, false))
		says(t, d, 1, write(4, 1), call(2, 4, 1, true))
		says(t, d, 3, write(2, 3), call(0, 2, 3, true), call(1, 2, 3, true))
		return d
	}
	d := busyOne()
	goes(t, d, 1, grant(0, 0, all, 0))
	for page := range pages {
		checkHas(t, d, 1, page, 0, 0)
	}
	checkHas(t, d, 0, 2, all, 0)
	checkHas(t, d, 0, 0, all, 0)
	checkHas(t, d, 2, 4, all, all)
	checkWants(t, d, toWrite(3, 2, 3))
	// Of its Calls none is left: it isn't passed by, and is called anew.
	says(t, d, 1, read(2, 0), grant(1, 2, 7, 0))
	says(t, d, 0, release(2, 8, 0), grant(3, 2, all, 8))
	says(t, d, 1, write(0, 1), call(0, 0, 1, true))

	// What it was called for by 1 stays with 2.
	d = busyOne()
	goes(t, d, 1, grant(0, 0, all, 0))
	says(t, d, 0, write(4, 1))
	says(t, d, 2, busy(4, 1, true))
	checkEdges(t, d, api.Edge{From: 0, To: 2})
}

// P15.3: a Call that was busy is gone with its holder: in its next session it isn't waited for till it says so again.
func TestGoneOfOneThatIsBusy(t *testing.T) {
	d := readBy(t, 2, 0, 1)
	says(t, d, 3, write(2, 3), call(0, 2, 3, true), call(1, 2, 3, true))
	says(t, d, 1, busy(2, 3, true))
	says(t, d, 0, busy(2, 3, true))
	checkEdges(t, d, api.Edge{From: 3, To: 0}, api.Edge{From: 3, To: 1})
	goes(t, d, 1)
	checkEdges(t, d, api.Edge{From: 3, To: 0})
	goes(t, d, 0, grant(3, 2, all, all))
}

// P15.3: Gone of one that waits only: those behind it are served.
func TestGoneOfOneThatWaits(t *testing.T) {
	d := readBy(t, 2, 0)
	says(t, d, 1, write(2, 3), call(0, 2, 3, true))
	says(t, d, 2, read(2, 3))
	goes(t, d, 1, grant(2, 2, all, 0))
	checkHas(t, d, 0, 2, all, 0)
	checkWants(t, d)
}

// P15.3: Gone of one that has nothing changes nothing.
func TestGoneOfNobody(t *testing.T) {
	d := ownedBy(t, 0, 1)
	says(t, d, 0, read(0, 1), call(1, 0, 1, false))
	says(t, d, 1, busy(0, 1, false))
	before := show(d)
	for range 2 {
		goes(t, d, 2)
		goes(t, d, 3)
	}
	if show(d) != before {
		t.Errorf("behind Gone of nobody: %+v", show(d))
	}
	d = desk.New()
	for client := range clients {
		goes(t, d, client)
	}
	if show(d) != show(&plain{}) {
		t.Errorf("behind Gone at a new Desk: %+v", show(d))
	}
}
