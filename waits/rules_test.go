package waits_test

import (
	"math"
	"slices"
	"testing"

	"cloakroom/api"
	"cloakroom/waits"
)

// strangers are numbers that are no client: those about the edges of 64 bits, and such as have the lowest bits of a client.
func strangers() []int {
	return []int{math.MinInt, math.MinInt + 1, math.MinInt + 3, math.MinInt32, -1 << 32, -1<<32 + 1, -256, -5, -4, -3, -2, -1, 4, 5, 6, 7, 8, 9, 31, 32, 63, 64, 65, 67,
		255, 256, 257, 1 << 31, 1 << 32, 1<<32 + 1, 1<<32 + 3, 1<<62 + 1, math.MaxInt - 3, math.MaxInt - 1, math.MaxInt}
}

// P13.1: Edges with one that is no client don't count, alone, in rings of their own, and between those that count.
func TestEdgesThatDoNotCount(t *testing.T) {
	for _, x := range strangers() {
		for client := range many {
			for _, l := range [][]api.Edge{edges(x, client), edges(client, x), edges(x, x), ring(x, client), ring(client, x, x)} {
				for other := range many {
					checkReach(t, l, other)
				}
				checkReach(t, l, x)
				checkVictim(t, l, none)
			}
		}
		l := edges(x, 0, 0, 1, 1, x, 1, 2, x, x, 2, x, x, 3)
		checkReach(t, l, 0, 1, 2)
		checkReach(t, l, 1, 2)
		checkReach(t, l, 2)
		checkReach(t, l, 3)
		checkVictim(t, l, none)
		l = append(l, edges(3, x, 2, 1, x, 2)...)
		checkReach(t, l, 0, 1, 2)
		checkReach(t, l, 1, 1, 2)
		checkReach(t, l, 2, 1, 2)
		checkReach(t, l, 3)
		checkVictim(t, l, 2, 1, 2)
	}
}

// P13.1: one that is no client waits for nobody, whatever Edges name it; Without takes its Edges out.
func TestOneThatIsNoClient(t *testing.T) {
	for _, x := range strangers() {
		for _, y := range append(strangers(), 0, 3) {
			l := append(everyEdge(), edges(x, y, y, x, x, x, x, 0, 3, x)...)
			checkReach(t, l, x)
			if waits.Cycle(l, x) {
				t.Errorf("%d, which is no client, waits for itself", x)
			}
			checkWithout(t, l, x, plainWithout(l, x))
			checkVictim(t, l, 3, 0, 1, 2, 3)
			for client := range many {
				checkReach(t, l, client, 0, 1, 2, 3)
			}
		}
		checkWithout(t, everyEdge(), x, everyEdge())
		checkWithout(t, edges(x, 0, 1, x, x, x, 1, 0, 2, x), x, edges(1, x, 1, 0, 2, x))
		checkWithout(t, edges(x, 0, 1, x, x, x, 1, 0, 2, x), 1, edges(x, 0, x, x, 2, x))
	}
}

// P13.1: 0 and 3 are clients, and count.
func TestFirstAndLastClient(t *testing.T) {
	checkReach(t, edges(0, 3), 0, 3)
	checkReach(t, edges(3, 0), 3, 0)
	checkVictim(t, edges(0, 3, 3, 0), 3, 0, 3)
	checkVictim(t, edges(0, 0), 0, 0)
	checkVictim(t, edges(3, 3), 3, 3)
}

// lists are some of each kind.
func lists() [][]api.Edge {
	return [][]api.Edge{nil, {}, edges(0, 1), edges(3, 2, 2, 1, 1, 0), ring(0, 1, 2, 3), append(ring(0, 2), ring(1, 3)...), everyEdge(),
		edges(9, 0, 0, 1, 1, 9, -1, 2, 1, 0, 2, 0, 0, 1, math.MaxInt, math.MinInt)}
}

// ask makes every call with a list.
func ask(l []api.Edge) {
	waits.Victim(l)
	for _, client := range append(strangers(), 0, 1, 2, 3) {
		waits.Reach(l, client)
		waits.Cycle(l, client)
		waits.Without(l, client)
	}
}

// What is handed in is not changed, spare room included.
func TestListsStayAsTheyAre(t *testing.T) {
	for _, l := range lists() {
		room := append(slices.Clone(l), edges(7, 7, 2, 2, 3, 0, 8, 1)...)
		want := slices.Clone(room)
		ask(room[:len(l)])
		if !slices.Equal(room, want) {
			t.Errorf("%v has become %v", want, room)
		}
	}
}

// What is handed in is not kept: written over, it changes nothing that was told.
func TestListsAreNotKept(t *testing.T) {
	for _, l := range lists() {
		for client := range many {
			mine := slices.Clone(l)
			left, reach := waits.Without(mine, client), waits.Reach(mine, client)
			for k := range mine {
				mine[k] = api.Edge{From: 2, To: 2}
			}
			if want := plainWithout(l, client); !slices.Equal(left, want) {
				t.Errorf("what Without told was %v and is %v", want, left)
			}
			checkReach(t, l, client, reach...)
			checkBeside(t, mine)
			checkBeside(t, l)
		}
	}
}

// overwrite writes over all of a list, its spare room too.
func overwrite[T any](list []T, with T) {
	room := list[:cap(list)]
	for k := range room {
		room[k] = with
	}
}

// What Reach and Without tell is new memory: written over, spare room too, it changes neither the list that was handed
// in nor an answer.
func TestAnswersAreNewMemory(t *testing.T) {
	for _, l := range lists() {
		room := append(slices.Clone(l), edges(7, 7, 2, 2, 3, 0, 8, 1)...)
		want, mine := slices.Clone(room), room[:len(l)]
		for _, client := range []int{0, 1, 2, 3, 9, 4, -1} {
			reach, left := waits.Reach(mine, client), waits.Without(mine, client)
			overwrite(waits.Reach(mine, client), 3)
			overwrite(waits.Without(mine, client), api.Edge{From: 1, To: 1})
			if !slices.Equal(room, want) {
				t.Fatalf("%v has become %v by what was told of it", want, room)
			}
			checkReach(t, mine, client, reach...)
			checkWithout(t, mine, client, left)
			checkWithout(t, l, client, left)
		}
		checkBeside(t, mine)
	}
}

// P1: every call ends without a panic at all arguments.
func TestAllArguments(t *testing.T) {
	numbers := append(strangers(), 0, 1, 2, 3)
	var all []api.Edge
	for _, from := range numbers {
		for _, to := range numbers {
			ask(edges(from, to))
			all = append(all, api.Edge{From: from, To: to})
		}
	}
	ask(all)
	checkVictim(t, all, 3, 0, 1, 2, 3)
	for _, l := range lists() {
		ask(l)
	}
}

// P2: what is told hangs on the list and the client alone, whatever was asked before.
func TestAskedAgain(t *testing.T) {
	for _, l := range lists() {
		for _, other := range lists() {
			checkBeside(t, l)
			ask(other)
		}
		checkBeside(t, l)
	}
}
