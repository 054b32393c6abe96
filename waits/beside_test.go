package waits_test

import (
	"slices"
	"testing"

	"cloakroom/api"
	"cloakroom/waits"
)

// plain is who comes to whom over one Edge or more, found by going on till nothing is new.
func plain(l []api.Edge) [many][many]bool {
	var to [many][many]bool
	for {
		before := to
		for _, e := range l {
			if e.From < 0 || e.From > 3 || e.To < 0 || e.To > 3 {
				continue
			}
			to[e.From][e.To] = true
			for client := range many {
				to[e.From][client] = to[e.From][client] || to[e.To][client]
			}
		}
		if to == before {
			return to
		}
	}
}

// plainWithout takes Edges out one by one, from the end.
func plainWithout(l []api.Edge, client int) []api.Edge {
	left := slices.Clone(l)
	for k := len(left) - 1; k >= 0; k-- {
		if left[k].From == client {
			left = slices.Delete(left, k, k+1)
		}
	}
	return left
}

// checkBeside holds all answers to a list against the plain ones.
func checkBeside(t *testing.T, l []api.Edge) {
	t.Helper()
	to := plain(l)
	victim := none
	var inRings []int
	for client := range many {
		var all []int
		for other := range many {
			if to[client][other] {
				all = append(all, other)
			}
		}
		checkReach(t, l, client, all...)
		checkWithout(t, l, client, plainWithout(l, client))
		if to[client][client] {
			victim = client
			inRings = append(inRings, client)
		}
	}
	checkVictim(t, l, victim, inRings...)
}

// sets are all sets of the Edges between some clients, handed on one by one.
func sets(of []int, each func(l []api.Edge)) {
	var all []api.Edge
	for _, from := range of {
		for _, to := range of {
			all = append(all, api.Edge{From: from, To: to})
		}
	}
	for set := range 1 << len(all) {
		var l []api.Edge
		for k, e := range all {
			if set>>k&1 == 1 {
				l = append(l, e)
			}
		}
		each(l)
	}
}

// P13.1, P13.2: every set of the Edges between three clients, whichever they are, in their order and turned round.
func TestAllSetsOfThree(t *testing.T) {
	for _, of := range [][]int{{0, 1, 2}, {0, 1, 3}, {0, 2, 3}, {1, 2, 3}} {
		sets(of, func(l []api.Edge) {
			checkBeside(t, l)
			slices.Reverse(l)
			checkBeside(t, l)
		})
	}
}

// P13.1, P13.2: every set of the Edges between all four.
func TestAllSetsOfFour(t *testing.T) {
	sets([]int{2, 0, 3, 1}, func(l []api.Edge) {
		if !t.Failed() {
			checkBeside(t, l)
		}
	})
}

// noise is a row of numbers that hangs on where it begins alone.
type noise uint64

func (n *noise) below(top int) int {
	*n ^= *n << 13
	*n ^= *n >> 7
	*n ^= *n << 17
	return int(uint64(*n) % uint64(top))
}

// end is a client, mostly; else a number that is none.
func (n *noise) end() int {
	if n.below(5) > 0 {
		return n.below(many)
	}
	return strangers()[n.below(len(strangers()))]
}

// P13.1, P13.2: lists in any order, with Edges that come twice and such as don't count, held against plain answers.
func TestListsOfAnyOrder(t *testing.T) {
	n := noise(88172645463325252)
	for range 20000 {
		var l []api.Edge
		for range n.below(12) {
			l = append(l, api.Edge{From: n.end(), To: n.end()})
			if n.below(4) == 0 {
				l = append(l, l[n.below(len(l))])
			}
		}
		checkBeside(t, l)
		client := n.end()
		checkWithout(t, l, client, plainWithout(l, client))
		if t.Failed() {
			return
		}
	}
}

// P13.2: who gives way is greater than all that give way behind it, so nobody does twice.
func TestVictimsFall(t *testing.T) {
	sets([]int{0, 1, 2, 3}, func(l []api.Edge) {
		last, left := many, l
		for {
			victim, ok := waits.Victim(left)
			if !ok {
				break
			}
			if victim >= last {
				t.Fatalf("%v: %d gives way behind %d", l, victim, last)
			}
			last, left = victim, waits.Without(left, victim)
		}
	})
}
