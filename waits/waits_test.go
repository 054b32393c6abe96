package waits_test

import (
	"slices"
	"testing"

	"cloakroom/api"
	"cloakroom/waits"
)

const many = api.MaxClients

// edges are those between the clients that are named two by two: who waits, and for whom.
func edges(ends ...int) []api.Edge {
	var list []api.Edge
	for k := 0; k+1 < len(ends); k += 2 {
		list = append(list, api.Edge{From: ends[k], To: ends[k+1]})
	}
	return list
}

// ring is each client of a row waiting for the next one, and the last one for the first.
func ring(row ...int) []api.Edge {
	return append(chain(row...), api.Edge{From: row[len(row)-1], To: row[0]})
}

// chain is each client of a row waiting for the next one.
func chain(row ...int) []api.Edge {
	var list []api.Edge
	for k := 1; k < len(row); k++ {
		list = append(list, api.Edge{From: row[k-1], To: row[k]})
	}
	return list
}

// orders are all orders of a list.
func orders[T any](list []T) [][]T {
	if len(list) == 0 {
		return [][]T{nil}
	}
	var all [][]T
	for k := range list {
		rest := append(slices.Clone(list[:k]), list[k+1:]...)
		for _, order := range orders(rest) {
			all = append(all, append([]T{list[k]}, order...))
		}
	}
	return all
}

// none is the Victim where there is none.
const none = -1

// checkVictim asks for the Victim, and whether the clients that are named, and no others, wait for themselves.
func checkVictim(t *testing.T, l []api.Edge, victim int, inRings ...int) {
	t.Helper()
	want, there := victim, victim != none
	if !there {
		want = 0
	}
	if got, ok := waits.Victim(l); got != want || ok != there {
		t.Errorf("%v: the Victim is %d, %t, not %d, %t", l, got, ok, want, there)
	}
	for client := range many {
		if waits.Cycle(l, client) != slices.Contains(inRings, client) {
			t.Errorf("%v: Cycle %d is %t", l, client, waits.Cycle(l, client))
		}
	}
	checkGivingWay(t, l)
}

// checkGivingWay asks P13.2 of a list: each that gives way waits for nobody any more, so that it isn't asked again.
func checkGivingWay(t *testing.T, l []api.Edge) {
	t.Helper()
	left := l
	for range many {
		victim, ok := waits.Victim(left)
		if !ok {
			break
		}
		left = waits.Without(left, victim)
	}
	if victim, ok := waits.Victim(left); ok || victim != 0 {
		t.Errorf("%v: %d is in a ring still, when four have given way", l, victim)
	}
	for client := range many {
		if waits.Cycle(left, client) {
			t.Errorf("%v: %d waits for itself still, when all have given way", l, client)
		}
	}
}

func checkReach(t *testing.T, l []api.Edge, from int, want ...int) {
	t.Helper()
	if got := waits.Reach(l, from); !slices.Equal(got, want) {
		t.Errorf("%v: Reach from %d is %d, not %d", l, from, got, want)
	}
}

func checkWithout(t *testing.T, l []api.Edge, client int, want []api.Edge) {
	t.Helper()
	if got := waits.Without(l, client); !slices.Equal(got, want) {
		t.Errorf("%v without those of %d is %v, not %v", l, client, got, want)
	}
}

// The chapter's example.
func TestExample(t *testing.T) {
	l := edges(0, 1, 1, 0, 2, 0)
	checkVictim(t, l, 1, 0, 1)
	checkReach(t, l, 0, 0, 1)
	checkReach(t, l, 1, 0, 1)
	checkReach(t, l, 2, 0, 1)
	checkReach(t, l, 3)
	checkWithout(t, l, 1, edges(0, 1, 2, 0))
	checkVictim(t, waits.Without(l, 1), none)
}

// P13.1: no Edges, as nil and as an empty list.
func TestNoEdges(t *testing.T) {
	for _, l := range [][]api.Edge{nil, {}, make([]api.Edge, 0, 5)} {
		for client := -1; client <= many; client++ {
			checkReach(t, l, client)
			checkWithout(t, l, client, nil)
		}
		checkVictim(t, l, none)
	}
}

// P13.1: one Edge, of each client to each other one and to itself, once and twice.
func TestOneEdge(t *testing.T) {
	for from := range many {
		for to := range many {
			for _, l := range [][]api.Edge{edges(from, to), edges(from, to, from, to)} {
				checkReach(t, l, from, to)
				for client := range many {
					if client == from {
						checkWithout(t, l, client, nil)
						continue
					}
					checkReach(t, l, client)
					checkWithout(t, l, client, l)
				}
				if from == to {
					checkVictim(t, l, from, from)
				} else {
					checkVictim(t, l, none)
				}
			}
		}
	}
}

// P13.1: chains over all clients, in every order of the clients and of the list: each comes to all behind it, and not to itself.
func TestChains(t *testing.T) {
	for _, row := range orders([]int{0, 1, 2, 3}) {
		for _, l := range orders(chain(row...)) {
			for k, client := range row {
				behind := slices.Sorted(slices.Values(row[k+1:]))
				checkReach(t, l, client, behind...)
			}
			checkVictim(t, l, none)
		}
	}
}

// P13.1: rings of one to four clients, in every order of the clients and of the list, alone.
func TestRings(t *testing.T) {
	for _, row := range orders([]int{0, 1, 2, 3}) {
		for size := 1; size <= many; size++ {
			in := slices.Sorted(slices.Values(row[:size]))
			for _, l := range orders(ring(row[:size]...)) {
				for _, client := range in {
					checkReach(t, l, client, in...)
				}
				for _, client := range row[size:] {
					checkReach(t, l, client)
				}
				checkVictim(t, l, slices.Max(in), in...)
			}
		}
	}
}

// P13.1: others that wait for one of a ring, one for the next one, come to all of it, and aren't in it.
func TestThoseThatWaitForARing(t *testing.T) {
	for _, row := range orders([]int{0, 1, 2, 3}) {
		for size := 1; size < many; size++ {
			in, others := slices.Sorted(slices.Values(row[:size])), row[size:]
			l := append(ring(row[:size]...), chain(append(slices.Clone(others), row[0])...)...)
			for _, client := range in {
				checkReach(t, l, client, in...)
			}
			for k, client := range others {
				checkReach(t, l, client, slices.Sorted(slices.Values(append(slices.Clone(others[k+1:]), in...)))...)
			}
			checkVictim(t, l, slices.Max(in), in...)
		}
	}
}

// P13.1: others that a ring waits for aren't in it, and don't come to it.
func TestThoseThatARingWaitsFor(t *testing.T) {
	for _, row := range orders([]int{0, 1, 2, 3}) {
		for size := 1; size < many; size++ {
			in, others := slices.Sorted(slices.Values(row[:size])), row[size:]
			l := append(chain(append([]int{row[0]}, others...)...), ring(row[:size]...)...)
			for _, client := range in {
				checkReach(t, l, client, 0, 1, 2, 3)
			}
			for k, client := range others {
				checkReach(t, l, client, slices.Sorted(slices.Values(others[k+1:]))...)
			}
			checkVictim(t, l, slices.Max(in), in...)
		}
	}
}

// P13.1: two rings at once, apart, and one that waits for the other.
func TestTwoRings(t *testing.T) {
	for _, row := range orders([]int{0, 1, 2, 3}) {
		first, second := slices.Sorted(slices.Values(row[:2])), slices.Sorted(slices.Values(row[2:]))
		l := append(ring(row[:2]...), ring(row[2:]...)...)
		for _, client := range first {
			checkReach(t, l, client, first...)
		}
		for _, client := range second {
			checkReach(t, l, client, second...)
		}
		checkVictim(t, l, 3, 0, 1, 2, 3)
		l = append(l, api.Edge{From: row[1], To: row[2]})
		for _, client := range first {
			checkReach(t, l, client, 0, 1, 2, 3)
		}
		for _, client := range second {
			checkReach(t, l, client, second...)
		}
		checkVictim(t, l, 3, 0, 1, 2, 3)
	}
}

// P13.1: when the Victim of two rings has given way, the other ring's greatest is the next one.
func TestVictimOfTheOtherRing(t *testing.T) {
	l := append(ring(0, 2), ring(1, 3)...)
	checkVictim(t, l, 3, 0, 1, 2, 3)
	l = waits.Without(l, 3)
	checkVictim(t, l, 2, 0, 2)
	l = waits.Without(l, 2)
	checkVictim(t, l, none)
	if want := edges(0, 2, 1, 3); !slices.Equal(l, want) {
		t.Errorf("%v is left, not %v", l, want)
	}
}

// everyEdge is each of the 16 Edges between the clients.
func everyEdge() []api.Edge {
	var list []api.Edge
	for from := range many {
		for to := range many {
			list = append(list, api.Edge{From: from, To: to})
		}
	}
	return list
}

// P13.1, P13.2: all 16 Edges at once: all four have to give way, the greatest first.
func TestAllEdges(t *testing.T) {
	l := everyEdge()
	for victim := many - 1; victim >= 0; victim-- {
		in := []int{0, 1, 2, 3}[:victim+1]
		checkVictim(t, l, victim, in...)
		for client := range many {
			if client <= victim {
				checkReach(t, l, client, 0, 1, 2, 3)
			} else {
				checkReach(t, l, client)
			}
		}
		l = waits.Without(l, victim)
		if want := everyEdge()[:victim*many]; !slices.Equal(l, want) {
			t.Errorf("%v is left, not %v", l, want)
		}
	}
	checkVictim(t, l, none)
}

// P13.2: four times are needed where each waits for itself alone.
func TestFourGiveWay(t *testing.T) {
	for _, l := range orders(edges(0, 0, 1, 1, 2, 2, 3, 3)) {
		for victim := many - 1; victim >= 0; victim-- {
			checkVictim(t, l, victim, []int{0, 1, 2, 3}[:victim+1]...)
			l = waits.Without(l, victim)
		}
		checkVictim(t, l, none)
	}
}

// P13.1: Without keeps the order, what comes twice, and those that don't count.
func TestWithout(t *testing.T) {
	l := edges(2, 0, 0, 1, 9, 1, 2, 2, 0, 1, 3, -1, 1, 0, -1, 3, 3, 2, 0, 9, 2, 0)
	checkWithout(t, l, 0, edges(2, 0, 9, 1, 2, 2, 3, -1, 1, 0, -1, 3, 3, 2, 2, 0))
	checkWithout(t, l, 1, edges(2, 0, 0, 1, 9, 1, 2, 2, 0, 1, 3, -1, -1, 3, 3, 2, 0, 9, 2, 0))
	checkWithout(t, l, 2, edges(0, 1, 9, 1, 0, 1, 3, -1, 1, 0, -1, 3, 3, 2, 0, 9))
	checkWithout(t, l, 3, edges(2, 0, 0, 1, 9, 1, 2, 2, 0, 1, 1, 0, -1, 3, 0, 9, 2, 0))
	checkWithout(t, l, 9, edges(2, 0, 0, 1, 2, 2, 0, 1, 3, -1, 1, 0, -1, 3, 3, 2, 0, 9, 2, 0))
	checkWithout(t, l, -1, edges(2, 0, 0, 1, 9, 1, 2, 2, 0, 1, 3, -1, 1, 0, 3, 2, 0, 9, 2, 0))
	checkWithout(t, l, 4, l)
}

// P13.1: what comes again and again counts as once, and a list of any length is gone through.
func TestLongLists(t *testing.T) {
	var l []api.Edge
	for k := range 30000 {
		l = append(l, api.Edge{From: k % 3, To: k%3 + 1}, api.Edge{From: k, To: k + 4})
	}
	checkReach(t, l, 0, 1, 2, 3)
	checkReach(t, l, 2, 3)
	checkVictim(t, l, none)
	l = append(l, api.Edge{From: 3, To: 1})
	checkReach(t, l, 0, 1, 2, 3)
	checkReach(t, l, 3, 1, 2, 3)
	checkVictim(t, l, 3, 1, 2, 3)
	if left := waits.Without(l, 3); len(left) != len(l)-2 {
		t.Errorf("of %d Edges %d are left", len(l), len(left))
	}
}
