package desk_test

import (
	"slices"
	"testing"

	"cloakroom/api"
	"cloakroom/desk"
	"cloakroom/msg"
)

const (
	clients = api.MaxClients
	pages   = api.MaxPages
	objs    = api.MaxObjs
	all     = 15
)

func read(page, obj int) api.Msg {
	return api.Msg{Kind: api.AskRead, Page: page, Obj: obj}
}

func write(page, obj int) api.Msg {
	return api.Msg{Kind: api.AskWrite, Page: page, Obj: obj}
}

func release(page, copies, own int) api.Msg {
	return api.Msg{Kind: api.Release, Page: page, Copy: copies, Own: own}
}

func busy(page, obj int, write bool) api.Msg {
	return api.Msg{Kind: api.Busy, Page: page, Obj: obj, Write: write}
}

// otherKinds are right messages that mean nothing to a desk.
func otherKinds(page, obj int) []api.Msg {
	return []api.Msg{
		{Kind: api.Commit, Txn: 7},
		{Kind: api.Commit, Txn: 7, Puts: []api.Put{{Page: page, Obj: obj, Value: 1i}}},
		{Kind: api.Grant, Page: page, Copy: all, Own: 1 << obj, Values: [objs]complex128{1, 2i, 3, 4i}},
		{Kind: api.Call, Page: page, Obj: obj},
		{Kind: api.Call, Page: page, Obj: obj, Write: true},
		{Kind: api.Done, Txn: 7},
		{Kind: api.Fail, Copy: int(api.ErrDeadlock)},
		{Kind: api.Fail, Txn: 7, Copy: int(api.ErrFull)},
	}
}

func grant(client, page, copies, own int) api.Act {
	return api.Act{Client: client, Msg: api.Msg{Kind: api.Grant, Page: page, Copy: copies, Own: own}}
}

func call(client, page, obj int, write bool) api.Act {
	return api.Act{Client: client, Msg: api.Msg{Kind: api.Call, Page: page, Obj: obj, Write: write}}
}

func fail(client int) api.Act {
	return api.Act{Client: client, Msg: api.Msg{Kind: api.Fail, Copy: 151}}
}

func sameActs(a, b []api.Act) bool {
	return slices.EqualFunc(a, b, func(x, y api.Act) bool { return x.Client == y.Client && msg.Same(x.Msg, y.Msg) })
}

// isServers is whether a desk may send this: a Grant without Values, a Call, or a Fail of nothing but the error 151.
func isServers(a api.Act) bool {
	if a.Client < 0 || a.Client >= clients || !msg.Right(a.Msg) {
		return false
	}
	switch a.Msg.Kind {
	case api.Grant:
		return a.Msg.Values == [objs]complex128{}
	case api.Fail:
		return a.Msg.Txn == 0 && a.Msg.Copy == 151
	}
	return a.Msg.Kind == api.Call
}

func checkSent(t *testing.T, what any, got, want []api.Act) {
	t.Helper()
	if !sameActs(got, want) {
		t.Errorf("%+v: sent is %+v, not %+v", what, got, want)
	}
}

// says is that a client says something, and what is sent then.
func says(t *testing.T, d *desk.Desk, client int, m api.Msg, want ...api.Act) {
	t.Helper()
	if !msg.Right(m) {
		t.Errorf("%+v isn't right", m)
	}
	got := d.Handle(client, m)
	checkSent(t, m, got, want)
	checkSettled(t, d, got)
}

// goes is that a client is gone, and what is sent then.
func goes(t *testing.T, d *desk.Desk, client int, want ...api.Act) {
	t.Helper()
	got := d.Gone(client)
	checkSent(t, "Gone", got, want)
	checkSettled(t, d, got)
}

func checkHas(t *testing.T, d *desk.Desk, client, page, copies, own int) {
	t.Helper()
	if a, b := d.Copies(client, page), d.Own(client, page); a != copies || b != own {
		t.Errorf("%d has %d, %d of page %d, not %d, %d", client, a, b, page, copies, own)
	}
}

func checkWants(t *testing.T, d *desk.Desk, want ...api.Want) {
	t.Helper()
	if got := d.Wants(); !slices.Equal(got, want) {
		t.Errorf("there wait %+v, not %+v", got, want)
	}
}

func checkEdges(t *testing.T, d *desk.Desk, want ...api.Edge) {
	t.Helper()
	if got := d.Edges(); !slices.Equal(got, want) {
		t.Errorf("the Edges are %+v, not %+v", got, want)
	}
}

func toRead(client, page, obj int) api.Want {
	return api.Want{Client: client, Page: page, Obj: obj}
}

func toWrite(client, page, obj int) api.Want {
	return api.Want{Client: client, Page: page, Obj: obj, Write: true}
}

// readBy is a new desk at which some have copies of all of a page.
func readBy(t *testing.T, page int, list ...int) *desk.Desk {
	t.Helper()
	d := desk.New()
	for _, client := range list {
		says(t, d, client, read(page, 0), grant(client, page, all, 0))
	}
	return d
}

// ownedBy is a new desk at which one owns all of a page.
func ownedBy(t *testing.T, page, client int) *desk.Desk {
	t.Helper()
	d := desk.New()
	says(t, d, client, write(page, 0), grant(client, page, all, all))
	return d
}

// P15.1, P15.3: at a new Desk nobody has anything, waits, or owns, and there are no Edges.
func TestNew(t *testing.T) {
	d := desk.New()
	checkWants(t, d)
	checkEdges(t, d)
	for client := range clients {
		for page := range pages {
			checkHas(t, d, client, page, 0, 0)
			for obj := range objs {
				if d.Owns(client, []api.Put{{Page: page, Obj: obj}}) {
					t.Errorf("%d owns object %d of page %d", client, obj, page)
				}
			}
		}
	}
}

// The chapter's example, whoever of both asks first, and whether it says that it is busy ahead of its own asking or behind.
func TestExample(t *testing.T) {
	d := readBy(t, 2, 0, 1)
	says(t, d, 0, write(2, 1), call(1, 2, 1, true))
	says(t, d, 1, write(2, 1))
	checkWants(t, d, toWrite(0, 2, 1), toWrite(1, 2, 1))
	says(t, d, 1, busy(2, 1, true), fail(1))
	checkWants(t, d, toWrite(0, 2, 1))
	says(t, d, 1, release(2, 2, 2), grant(0, 2, all, 2))

	d = readBy(t, 2, 0, 1)
	says(t, d, 0, write(2, 1), call(1, 2, 1, true))
	says(t, d, 1, busy(2, 1, true))
	says(t, d, 1, write(2, 1), fail(1))
	checkWants(t, d, toWrite(0, 2, 1))

	d = readBy(t, 2, 0, 1)
	says(t, d, 1, write(2, 1), call(0, 2, 1, true))
	says(t, d, 0, write(2, 1))
	says(t, d, 0, busy(2, 1, true), fail(1), call(1, 2, 1, true))
	checkWants(t, d, toWrite(0, 2, 1))
	says(t, d, 1, release(2, 2, 2), grant(0, 2, all, 2))
}

// P15.2: what is free is granted at once: to read, copies of all; to write, all four for both. Nobody else gets anything.
func TestAskOfWhatIsFree(t *testing.T) {
	for client := range clients {
		for page := range pages {
			for obj := range objs {
				for _, own := range []int{0, all} {
					m := read(page, obj)
					if own == all {
						m = write(page, obj)
					}
					d := desk.New()
					says(t, d, client, m, grant(client, page, all, own))
					checkWants(t, d)
					for other := range clients {
						for place := range pages {
							if other == client && place == page {
								checkHas(t, d, other, place, all, own)
							} else {
								checkHas(t, d, other, place, 0, 0)
							}
						}
					}
				}
			}
		}
	}
}

// P15.2: who reads is not hindered by copies of others; each Grant tells the whole Copies and Own.
func TestAskReadOfWhatOthersHaveCopiesOf(t *testing.T) {
	d := readBy(t, 4, 0, 1, 2, 3)
	for client := range clients {
		checkHas(t, d, client, 4, all, 0)
	}
	says(t, d, 2, release(4, 6, 0))
	checkHas(t, d, 2, 4, 9, 0)
	says(t, d, 2, read(4, 1), grant(2, 4, all, 0))
}

// P15.2: who reads calls the one that owns the object, with nothing but the page and the object; the rest is granted.
func TestAskReadOfWhatIsOwned(t *testing.T) {
	for obj := range objs {
		d := ownedBy(t, 5, 2)
		says(t, d, 0, read(5, obj), call(2, 5, obj, false))
		checkWants(t, d, toRead(0, 5, obj))
		checkHas(t, d, 0, 5, 0, 0)
		says(t, d, 2, release(5, 0, 1<<obj), grant(0, 5, 1<<obj, 0))
		checkHas(t, d, 2, 5, all, all&^(1<<obj))
		checkWants(t, d)
		// The others of the page are owned still.
		says(t, d, 0, read(5, (obj+1)%objs), call(2, 5, (obj+1)%objs, false))
	}
}

// P15.2: to read, the objects that another one owns aren't granted beside the one that is free, and no Own is.
func TestAskReadBesideWhatIsOwned(t *testing.T) {
	d := ownedBy(t, 3, 0)
	says(t, d, 0, release(3, 0, 13))
	checkHas(t, d, 0, 3, all, 2)
	says(t, d, 1, read(3, 2), grant(1, 3, 13, 0))
	says(t, d, 2, read(3, 0), grant(2, 3, 13, 0))
	checkHas(t, d, 0, 3, all, 2)
}

// P15.2: to read, what others wait to write isn't granted, but for the object itself.
func TestAskReadOfWhatIsReserved(t *testing.T) {
	d := readBy(t, 3, 0)
	says(t, d, 1, write(3, 2), call(0, 3, 2, true))
	says(t, d, 2, read(3, 0), grant(2, 3, 11, 0))
	says(t, d, 2, read(3, 1), grant(2, 3, 11, 0))
	says(t, d, 2, read(3, 2))
	checkWants(t, d, toWrite(1, 3, 2), toRead(2, 3, 2))

	d = ownedBy(t, 3, 0)
	says(t, d, 2, read(3, 2), call(0, 3, 2, false))
	says(t, d, 1, write(3, 2))
	says(t, d, 3, write(3, 0), call(0, 3, 0, true))
	says(t, d, 0, release(3, 0, all), grant(2, 3, 14, 0), call(0, 3, 2, true), call(2, 3, 2, true))
	checkWants(t, d, toWrite(1, 3, 2), toWrite(3, 3, 0))
}

// P15.2: what is Reserved is left out at that page alone.
func TestReservedOnOtherPages(t *testing.T) {
	d := readBy(t, 3, 0)
	says(t, d, 1, write(3, 2), call(0, 3, 2, true))
	says(t, d, 2, read(4, 2), grant(2, 4, all, 0))
	says(t, d, 3, write(5, 2), grant(3, 5, all, all))
}

// P15.2: what a client has already it is granted again, with all that it has.
func TestAskOfWhatOneHas(t *testing.T) {
	d := ownedBy(t, 1, 3)
	says(t, d, 3, read(1, 2), grant(3, 1, all, all))
	says(t, d, 3, write(1, 2), grant(3, 1, all, all))
	says(t, d, 3, release(1, 1, 6))
	checkHas(t, d, 3, 1, 14, 8)
	says(t, d, 3, read(1, 1), grant(3, 1, all, 8))
	says(t, d, 0, read(1, 0), grant(0, 1, 7, 0))
	says(t, d, 3, read(1, 0), grant(3, 1, all, 8))
	says(t, d, 3, write(1, 3), grant(3, 1, all, 8))
}

// P15.2: one that has copies, and is alone, gets all four to write.
func TestAskWriteOfOnesOwnCopies(t *testing.T) {
	d := readBy(t, 0, 2)
	says(t, d, 2, write(0, 3), grant(2, 0, all, all))
	d = readBy(t, 0, 2, 1)
	says(t, d, 1, release(0, all, 0))
	says(t, d, 2, write(0, 3), grant(2, 0, all, all))
}

// P15.2: not alone at the page: the object for Own, and the Copies as for reading.
func TestAskWriteNotAlone(t *testing.T) {
	d := readBy(t, 3, 0)
	says(t, d, 0, release(3, 2, 0))
	says(t, d, 1, write(3, 1), grant(1, 3, all, 2))
	checkHas(t, d, 0, 3, 13, 0)

	// What another one owns isn't among them, nor what another one waits to write.
	d = ownedBy(t, 3, 0)
	says(t, d, 0, release(3, 2, 4))
	checkHas(t, d, 0, 3, 13, 9)
	says(t, d, 2, write(3, 2), call(0, 3, 2, true))
	says(t, d, 1, write(3, 1), grant(1, 3, 2, 2))
	checkHas(t, d, 1, 3, 2, 2)
}

// P15.2: alone at the page, but another client waits for something there: the object for Own, the Copies without what is
// Reserved.
func TestAskWriteAloneWithOthersWaiting(t *testing.T) {
	d := ownedBy(t, 3, 0)
	says(t, d, 2, write(3, 1), call(0, 3, 1, true))
	says(t, d, 1, write(3, 2), call(0, 3, 2, true))
	says(t, d, 0, release(3, all, all), grant(2, 3, 11, 2), grant(1, 3, 13, 4))

	// One that waits to read another object is enough.
	d = ownedBy(t, 3, 0)
	says(t, d, 2, write(3, 1), call(0, 3, 1, true))
	says(t, d, 1, read(3, 2), call(0, 3, 2, false))
	says(t, d, 0, release(3, all, all), grant(2, 3, all, 2), grant(1, 3, 13, 0))

	// One that waits for the same object is, too.
	d = ownedBy(t, 3, 0)
	says(t, d, 2, write(3, 1), call(0, 3, 1, true))
	says(t, d, 1, read(3, 1))
	says(t, d, 0, release(3, all, all), grant(2, 3, all, 2), call(2, 3, 1, false))
	checkWants(t, d, toRead(1, 3, 1))
}

// P15.2: whoever waits for another page doesn't count.
func TestAskWriteAloneWithOthersWaitingElsewhere(t *testing.T) {
	d := ownedBy(t, 3, 0)
	says(t, d, 1, read(3, 0), call(0, 3, 0, false))
	says(t, d, 2, write(4, 0), grant(2, 4, all, all))
	says(t, d, 0, write(2, 0), grant(0, 2, all, all))
	says(t, d, 0, write(3, 1))
	checkWants(t, d, toRead(1, 3, 0), toWrite(0, 3, 1))
}

// P15.2: who writes calls all others that have a copy, rising, with page, object and Write.
func TestAskWriteOfWhatOthersHaveCopiesOf(t *testing.T) {
	for client := range clients {
		for obj := range objs {
			d := readBy(t, 2, 3, 1, 0, 2)
			var want []api.Act
			for other := range clients {
				if other != client {
					want = append(want, call(other, 2, obj, true))
				}
			}
			says(t, d, client, write(2, obj), want...)
			checkWants(t, d, toWrite(client, 2, obj))
			checkHas(t, d, client, 2, all, 0)
		}
	}
}

// P15.2: who writes calls the one that owns the object, too.
func TestAskWriteOfWhatIsOwned(t *testing.T) {
	d := ownedBy(t, 5, 2)
	says(t, d, 3, write(5, 1), call(2, 5, 1, true))
	says(t, d, 2, release(5, 0, all))
	checkWants(t, d, toWrite(3, 5, 1))
	says(t, d, 2, release(5, 2, 0), grant(3, 5, all, 2))
	checkHas(t, d, 2, 5, 13, 0)
}

// P15.1: one that waits already is added no second time, whatever it asks for, and stays where it was.
func TestAskOfOneThatWaits(t *testing.T) {
	d := ownedBy(t, 5, 2)
	says(t, d, 1, read(5, 1), call(2, 5, 1, false))
	says(t, d, 0, write(5, 1))
	for _, m := range []api.Msg{read(5, 1), write(5, 1), read(0, 0), write(0, 0), read(5, 2), write(5, 3)} {
		says(t, d, 1, m)
		says(t, d, 0, m)
		checkWants(t, d, toRead(1, 5, 1), toWrite(0, 5, 1))
		checkHas(t, d, 1, 0, 0, 0)
	}
	says(t, d, 2, release(5, 0, 2), grant(1, 5, 2, 0), call(1, 5, 1, true), call(2, 5, 1, true))
}

// P15.1: messages of other kinds change nothing.
func TestOtherKinds(t *testing.T) {
	d := ownedBy(t, 5, 2)
	says(t, d, 1, read(5, 1), call(2, 5, 1, false))
	says(t, d, 0, write(5, 1))
	before := show(d)
	for client := range clients {
		for page := range pages {
			for obj := range objs {
				for _, m := range otherKinds(page, obj) {
					says(t, d, client, m)
				}
			}
		}
	}
	if show(d) != before {
		t.Errorf("other kinds of messages have changed something: %+v", show(d))
	}
	// The Call is OUT still: not answered, and not busy.
	says(t, d, 2, read(5, 0))
	checkEdges(t, d, api.Edge{From: 0, To: 1})
	says(t, d, 2, busy(5, 1, false), grant(2, 5, all, all))
}

// P15.1, P15.3: behind each message, and behind Gone, it settles, also if that has changed nothing itself. (The Table's
// methods are the Desk's: so something can be given up without a message.)
func TestSettlesBehindEach(t *testing.T) {
	list := append(otherKinds(3, 1), read(1, 0), write(1, 0), busy(3, 1, true), busy(0, 0, false), release(2, all, all), release(3, 0, 0))
	for _, m := range list {
		d := ownedBy(t, 3, 0)
		says(t, d, 1, read(3, 1), call(0, 3, 1, false))
		d.Clear(0)
		checkWants(t, d, toRead(1, 3, 1))
		// 1 waits already: what it asks for is nothing.
		says(t, d, 1, m, grant(1, 3, all, 0))
		checkWants(t, d)
	}
	d := ownedBy(t, 3, 0)
	says(t, d, 1, read(3, 1), call(0, 3, 1, false))
	d.Drop(0, 3, all, all)
	goes(t, d, 2, grant(1, 3, all, 0))
}
