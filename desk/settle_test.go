package desk_test

import (
	"testing"

	"cloakroom/api"
	"cloakroom/desk"
)

// P15.2: each Holder is Called once, whatever is said meanwhile, and whether it is busy or not.
func TestCalledOnce(t *testing.T) {
	d := readBy(t, 2, 0, 1, 2)
	says(t, d, 3, write(2, 1), call(0, 2, 1, true), call(1, 2, 1, true), call(2, 2, 1, true))
	says(t, d, 3, write(2, 1))
	says(t, d, 1, busy(2, 1, true))
	says(t, d, 1, busy(2, 1, true))
	says(t, d, 0, release(2, 13, 0))
	says(t, d, 2, release(2, 2, 0))
	says(t, d, 0, release(2, 2, 0))
	checkWants(t, d, toWrite(3, 2, 1))
	says(t, d, 1, release(2, 2, 0), grant(3, 2, all, 2))
}

// P15.2: a Call serves all that wait for the same, also if the one that it was for waits no more.
func TestCallServesAll(t *testing.T) {
	d := ownedBy(t, 2, 0)
	says(t, d, 1, read(2, 1), call(0, 2, 1, false))
	says(t, d, 2, read(2, 1))
	says(t, d, 3, read(2, 2), call(0, 2, 2, false))
	goes(t, d, 1)
	checkWants(t, d, toRead(2, 2, 1), toRead(3, 2, 2))
	says(t, d, 1, read(2, 1))
	says(t, d, 0, release(2, 0, 6), grant(2, 2, 6, 0), grant(3, 2, 6, 0), grant(1, 2, 6, 0))
}

// P15.2: a Call to read and one to write are two.
func TestCallToReadAndToWrite(t *testing.T) {
	d := ownedBy(t, 2, 0)
	says(t, d, 1, read(2, 1), call(0, 2, 1, false))
	says(t, d, 2, write(2, 1))
	goes(t, d, 1, call(0, 2, 1, true))
	says(t, d, 0, read(2, 0))
	says(t, d, 0, busy(2, 1, true))
	checkWants(t, d, toWrite(2, 2, 1), toRead(0, 2, 0))
	says(t, d, 0, busy(2, 1, false), grant(0, 2, all, all))
	says(t, d, 0, release(2, 2, 2), grant(2, 2, 2, 2))
}

// P15.2: where its Call was Answered, a Holder is Called anew.
func TestCalledAgainBehindAnAnswer(t *testing.T) {
	d := readBy(t, 3, 0)
	for range 3 {
		says(t, d, 1, write(3, 0), call(0, 3, 0, true))
		says(t, d, 0, release(3, 1, 1), grant(1, 3, all, 1))
		says(t, d, 0, read(3, 0), call(1, 3, 0, false))
		says(t, d, 1, release(3, 0, 1), grant(0, 3, all, 0))
	}
}

// P15.2: a Want that somebody is Ahead of is passed by: nobody is called for it, though others hold what it wants.
func TestPassedByBehindOthers(t *testing.T) {
	d := ownedBy(t, 1, 0)
	says(t, d, 1, read(1, 3), call(0, 1, 3, false))
	says(t, d, 2, write(1, 3))
	says(t, d, 3, read(1, 3))
	checkWants(t, d, toRead(1, 1, 3), toWrite(2, 1, 3), toRead(3, 1, 3))
	checkEdges(t, d, api.Edge{From: 2, To: 1}, api.Edge{From: 3, To: 2})
	// 3 is behind 2, though the object is owned no more.
	says(t, d, 0, release(1, 0, all), grant(1, 1, all, 0), call(0, 1, 3, true), call(1, 1, 3, true))
	checkWants(t, d, toWrite(2, 1, 3), toRead(3, 1, 3))
	says(t, d, 1, release(1, 8, 0))
	says(t, d, 0, release(1, 8, 0), grant(2, 1, all, 8), call(2, 1, 3, false))
	says(t, d, 2, release(1, 0, 8), grant(3, 1, all, 0))
}

// P15.2: those that want other objects, or only read as the one ahead does, aren't passed by.
func TestNotPassedBy(t *testing.T) {
	d := ownedBy(t, 1, 0)
	says(t, d, 0, release(1, 0, 7))
	says(t, d, 1, write(1, 3), call(0, 1, 3, true))
	says(t, d, 2, read(1, 2), grant(2, 1, 7, 0))
	says(t, d, 3, write(1, 2), call(0, 1, 2, true), call(2, 1, 2, true))
	says(t, d, 2, read(2, 3), grant(2, 2, all, 0))
	checkWants(t, d, toWrite(1, 1, 3), toWrite(3, 1, 2))
}

// P15.2: one that has a Call OUT for a page is passed by there, till it says Busy.
func TestPassedByWhileCalledTillBusy(t *testing.T) {
	d := readBy(t, 3, 0, 1)
	says(t, d, 1, write(3, 2), call(0, 3, 2, true))
	says(t, d, 0, read(3, 1))
	checkWants(t, d, toWrite(1, 3, 2), toRead(0, 3, 1))
	says(t, d, 2, read(4, 0), grant(2, 4, all, 0))
	checkWants(t, d, toWrite(1, 3, 2), toRead(0, 3, 1))
	says(t, d, 0, busy(3, 2, true), grant(0, 3, all, 0))
	checkWants(t, d, toWrite(1, 3, 2))
}

// P15.2: the same, till it has given way; whoever stands first is served first then.
func TestPassedByWhileCalledTillReleased(t *testing.T) {
	d := readBy(t, 3, 0, 1)
	says(t, d, 1, write(3, 2), call(0, 3, 2, true))
	says(t, d, 0, read(3, 1))
	says(t, d, 0, release(3, 4, 0), grant(1, 3, all, 4), grant(0, 3, 11, 0))
	checkWants(t, d)
}

// P15.2: for one that is passed by because of its own Call nobody is called, either.
func TestNobodyIsCalledForOneThatIsCalled(t *testing.T) {
	d := readBy(t, 3, 0, 1, 2)
	says(t, d, 1, write(3, 2), call(0, 3, 2, true), call(2, 3, 2, true))
	says(t, d, 0, write(3, 1))
	checkWants(t, d, toWrite(1, 3, 2), toWrite(0, 3, 1))
	says(t, d, 0, busy(3, 2, true), call(1, 3, 1, true), call(2, 3, 1, true))
}

// P15.2: a Call that is OUT for another page doesn't matter, nor one of another client.
func TestCalledElsewhere(t *testing.T) {
	d := readBy(t, 3, 0, 1)
	says(t, d, 1, write(3, 2), call(0, 3, 2, true))
	says(t, d, 0, read(4, 1), grant(0, 4, all, 0))
	says(t, d, 0, write(5, 1), grant(0, 5, all, all))
	says(t, d, 2, read(3, 1), grant(2, 3, 11, 0))
}

// P15.1: Release takes what it names from the client's, and nothing else.
func TestRelease(t *testing.T) {
	for copies := range all + 1 {
		for own := range all + 1 {
			d := ownedBy(t, 3, 2)
			says(t, d, 2, write(4, 1), grant(2, 4, all, all))
			says(t, d, 1, write(5, 1), grant(1, 5, all, all))
			says(t, d, 2, release(3, copies, own))
			checkHas(t, d, 2, 3, all&^copies, all&^(copies|own))
			checkHas(t, d, 2, 4, all, all)
			checkHas(t, d, 1, 5, all, all)
		}
	}
}

// P15.1: a Release of what the client hasn't changes nothing.
func TestReleaseOfNothing(t *testing.T) {
	d := ownedBy(t, 3, 0)
	says(t, d, 1, read(3, 1), call(0, 3, 1, false))
	says(t, d, 2, write(3, 2), call(0, 3, 2, true))
	before := show(d)
	for page := range pages {
		for _, client := range []int{1, 2, 3} {
			says(t, d, client, release(page, all, all))
		}
		if page != 3 {
			says(t, d, 0, release(page, all, all))
		}
	}
	says(t, d, 0, release(3, 0, 0))
	if show(d) != before {
		t.Errorf("behind a Release of nothing: %+v", show(d))
	}
}

// P15.1: each Call is Answered object by object, by every Release: that to write where there is no copy any more, that to
// read where it isn't owned any more. One that isn't Answered stays: told that it is busy, it is waited for.
func TestReleaseAnswersCalls(t *testing.T) {
	for copies := range all + 1 {
		for own := range all + 1 {
			for obj := range objs {
				for _, writes := range []bool{false, true} {
					d := ownedBy(t, 3, 2)
					m := read(3, obj)
					if writes {
						m = write(3, obj)
					}
					says(t, d, 1, m, call(2, 3, obj, writes))
					says(t, d, 2, busy(3, obj, writes))
					checkEdges(t, d, api.Edge{From: 1, To: 2})
					d.Handle(2, release(3, copies, own))
					given := copies>>obj&1 == 1 || !writes && own>>obj&1 == 1
					if given != (len(d.Wants()) == 0) || given != (len(d.Edges()) == 0) || given != (d.Copies(1, 3)>>obj&1 == 1) {
						t.Fatalf("Release %d, %d, object %d, %t: %+v, %+v", copies, own, obj, writes, d.Wants(), d.Edges())
					}
				}
			}
		}
	}
}

// P15.1: a Release answers Calls that nobody waits behind any more, too: the next one Calls anew.
func TestReleaseAnswersCallsOfNobody(t *testing.T) {
	d := ownedBy(t, 3, 0)
	says(t, d, 1, read(3, 1), call(0, 3, 1, false))
	says(t, d, 2, write(3, 2), call(0, 3, 2, true))
	goes(t, d, 1)
	goes(t, d, 2)
	says(t, d, 0, release(3, 0, 6))
	// That to write is OUT still, as the copy is there; that to read was answered.
	says(t, d, 0, write(3, 1))
	says(t, d, 0, busy(3, 2, true), grant(0, 3, all, all))
	says(t, d, 1, read(3, 1), call(0, 3, 1, false))
	says(t, d, 2, write(3, 2))
	checkEdges(t, d, api.Edge{From: 2, To: 0})
}

// P15.1: Busy of a Call that isn't there (of another page, object, Write, or client) changes nothing.
func TestBusyOfNoCall(t *testing.T) {
	d := ownedBy(t, 3, 0)
	for client := range clients {
		says(t, d, client, busy(3, 1, true))
	}
	says(t, d, 1, write(3, 1), call(0, 3, 1, true))
	before := show(d)
	for client := range clients {
		for page := range pages {
			for obj := range objs {
				for _, writes := range []bool{false, true} {
					if client != 0 || page != 3 || obj != 1 || !writes {
						says(t, d, client, busy(page, obj, writes))
					}
				}
			}
		}
	}
	if show(d) != before {
		t.Errorf("behind a Busy of no Call: %+v", show(d))
	}
	says(t, d, 0, busy(3, 1, true))
	checkEdges(t, d, api.Edge{From: 1, To: 0})
}

// ringOf is a new desk at which each of some clients owns the page of its number, and waits for what the next one owns
// and needs still; the last one was called for the first one, but hasn't said anything.
func ringOf(t *testing.T, list ...int) *desk.Desk {
	t.Helper()
	d := desk.New()
	for _, client := range list {
		says(t, d, client, write(client, 0), grant(client, client, all, all))
	}
	for k, client := range list {
		next := list[(k+1)%len(list)]
		says(t, d, client, read(next, 2), call(next, next, 2, false))
		if k < len(list)-1 {
			says(t, d, next, busy(next, 2, false))
		}
	}
	return d
}

// P15.2: rings of two, of three and of four, of whichever clients in whichever order: the greatest gives way, all others
// wait on, and the ring is no more.
func TestRings(t *testing.T) {
	rings := [][]int{{0, 1}, {1, 0}, {3, 2}, {0, 3}, {0, 1, 2}, {2, 1, 0}, {1, 3, 0}, {3, 1, 2}, {0, 1, 2, 3}, {3, 2, 1, 0}, {1, 3, 0, 2}}
	for _, list := range rings {
		d := ringOf(t, list...)
		victim := 0
		for _, client := range list {
			victim = max(victim, client)
		}
		var wants []api.Want
		var edges []api.Edge
		for k, client := range list {
			if next := list[(k+1)%len(list)]; client != victim {
				wants = append(wants, toRead(client, next, 2))
				edges = append(edges, api.Edge{From: client, To: next})
			}
		}
		says(t, d, list[0], busy(list[0], 2, false), fail(victim))
		checkWants(t, d, wants...)
		checkEdges(t, d, edges...)
		for _, client := range list {
			checkHas(t, d, client, client, all, all)
		}
		// Who gave way may ask again, and gives way again.
		next := list[0]
		for k, client := range list {
			if client == victim {
				next = list[(k+1)%len(list)]
			}
		}
		says(t, d, victim, read(next, 2), fail(victim))
	}
}

// P15.2: who only waits for a ring needn't give way, though its number is greater.
func TestRingWithOneOutside(t *testing.T) {
	d := ringOf(t, 0, 1)
	says(t, d, 3, read(0, 2))
	says(t, d, 0, busy(0, 2, false), fail(1))
	checkWants(t, d, toRead(0, 1, 2), toRead(3, 0, 2))
	checkEdges(t, d, api.Edge{From: 0, To: 1}, api.Edge{From: 3, To: 0})
}

// P15.2: a ring over one that is Ahead: 2 is behind 1, which waits for 0, which waits for 2.
func TestRingOverOneAhead(t *testing.T) {
	d := desk.New()
	for _, client := range []int{0, 2} {
		says(t, d, client, write(client, 0), grant(client, client, all, all))
	}
	says(t, d, 1, write(0, 3), call(0, 0, 3, true))
	says(t, d, 0, busy(0, 3, true))
	says(t, d, 2, read(0, 3))
	says(t, d, 0, read(2, 1), call(2, 2, 1, false))
	checkEdges(t, d, api.Edge{From: 1, To: 0}, api.Edge{From: 2, To: 1})
	says(t, d, 2, busy(2, 1, false), fail(2))
	checkWants(t, d, toWrite(1, 0, 3), toRead(0, 2, 1))
	checkEdges(t, d, api.Edge{From: 1, To: 0}, api.Edge{From: 0, To: 2})
}

// P15.2: one that hasn't said anything isn't waited for: there is no ring yet.
func TestNoRingWhileCallsAreOut(t *testing.T) {
	d := ringOf(t, 0, 1, 2)
	checkEdges(t, d, api.Edge{From: 0, To: 1}, api.Edge{From: 1, To: 2})
	checkWants(t, d, toRead(0, 1, 2), toRead(1, 2, 2), toRead(2, 0, 2))
	says(t, d, 0, release(0, 0, all), grant(2, 0, all, 0))
}

// P15.2: more than one has to give way at once: the greatest first, then the greatest of those that are left.
func TestMoreThanOneGivesWay(t *testing.T) {
	for many := 1; many < clients; many++ {
		d := ownedBy(t, 0, 0)
		var calls, fails []api.Act
		for client := 1; client <= many; client++ {
			says(t, d, client, read(1, 0), grant(client, 1, all, 0))
			calls = append(calls, call(client, 1, 0, true))
			fails = append([]api.Act{fail(client)}, fails...)
		}
		says(t, d, 0, write(1, 0), calls...)
		for client := 1; client <= many; client++ {
			says(t, d, client, busy(1, 0, true))
		}
		says(t, d, 1, read(0, 3), call(0, 0, 3, false))
		for client := 2; client <= many; client++ {
			says(t, d, client, read(0, 3))
		}
		says(t, d, 0, busy(0, 3, false), fails...)
		checkWants(t, d, toWrite(0, 1, 0))
	}
}

// P15.2: behind each that gave way all is settled anew: who stood behind it is called for, or granted what it wants.
func TestSettledBehindAVictim(t *testing.T) {
	d := ringOf(t, 0, 1)
	says(t, d, 2, write(0, 2))
	says(t, d, 0, busy(0, 2, false), fail(1), call(0, 0, 2, true))
	checkWants(t, d, toRead(0, 1, 2), toWrite(2, 0, 2))

	d = readBy(t, 2, 0, 3)
	says(t, d, 3, write(2, 1), call(0, 2, 1, true))
	says(t, d, 1, read(2, 1))
	says(t, d, 0, busy(2, 1, true))
	says(t, d, 0, write(2, 1), fail(3), grant(1, 2, all, 0), call(1, 2, 1, true), call(3, 2, 1, true))
	checkWants(t, d, toWrite(0, 2, 1))
}

// P15.2: all that one message leads to, in its order: Calls and Grants as the Wants stand, each Grant ahead of what it
// leads to.
func TestOrderOfWhatIsSent(t *testing.T) {
	d := desk.New()
	says(t, d, 0, write(0, 0), grant(0, 0, all, all))
	says(t, d, 3, write(0, 1), call(0, 0, 1, true))
	says(t, d, 2, read(0, 2), call(0, 0, 2, false))
	says(t, d, 1, read(0, 1))
	says(t, d, 0, read(1, 0), grant(0, 1, all, 0))
	goes(t, d, 0, grant(3, 0, all, 2), grant(2, 0, 13, 0), call(3, 0, 1, false))
	checkWants(t, d, toRead(1, 0, 1))

	// A Call for the first Want stands ahead of a Grant of the second.
	d = ownedBy(t, 2, 1)
	says(t, d, 0, write(5, 0), grant(0, 5, all, all))
	says(t, d, 0, read(2, 1), call(1, 2, 1, false))
	says(t, d, 3, write(2, 1))
	says(t, d, 2, read(5, 0), call(0, 5, 0, false))
	goes(t, d, 0, call(1, 2, 1, true), grant(2, 5, all, 0))
	checkWants(t, d, toWrite(3, 2, 1))
}
