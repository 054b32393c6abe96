package net_test

import (
	"slices"
	"testing"

	"cloakroom/crc"
	"cloakroom/net"
)

// sizes are how many frames a lane has in tests that go through all of its places.
var sizes = []int{1, 2, 3, 5, 8, most - 1, most}

// mixed is a net with so many frames on one lane, every other one of them SPOILT.
func mixed(t *testing.T, lane, many int) (*net.Net, []told) {
	t.Helper()
	n := filled(t, lane, many)
	list := good(names(many)...)
	for k := 1; k < many; k += 2 {
		checkSpoil(t, n, lane, k, 3, 9, true)
		list[k] = told{string(crc.Burst([]byte(list[k].text), 3, 9)), true}
	}
	return n, list
}

// P20.2: where no frame has so many ahead of it, each call answers false, and none, and nothing changes.
func TestNoPlace(t *testing.T) {
	for _, many := range append(sizes, 0) {
		for _, lane := range []int{0, 3, lanes - 1} {
			n, list := mixed(t, lane, many)
			for _, i := range wrong(many) {
				checkNothing(t, n, lane, i)
			}
			for other := range lanes {
				if other != lane {
					checkNothing(t, n, other, 0)
				}
			}
			checkLane(t, n, lane, list)
		}
	}
}

// P20.2 Take: of each place, it is that frame; it is gone, and the others keep their order.
func TestTake(t *testing.T) {
	for _, many := range sizes {
		for i := range many {
			n, list := mixed(t, 1, many)
			checkTake(t, n, 1, i, list[i].text)
			checkLane(t, n, 1, slices.Delete(list, i, i+1))
		}
	}
}

// P20.2 Take: all, from the front, from the end, and from the midst; then there is none.
func TestTakeAll(t *testing.T) {
	for _, many := range sizes {
		for _, place := range []func(left int) int{
			func(int) int { return 0 },
			func(left int) int { return left - 1 },
			func(left int) int { return left / 2 },
			func(left int) int { return 7 * left / 10 },
		} {
			n := filled(t, 4, many)
			want := names(many)
			for left := many; left > 0; left-- {
				i := place(left)
				checkTake(t, n, 4, i, want[i])
				want = slices.Delete(want, i, i+1)
			}
			checkNothing(t, n, 4, 0)
			checkLane(t, n, 4, nil)
		}
	}
}

// P20.2 Double: of each place, one like it, as SPOILT as it, is behind the others, which stay; with 200 it is refused,
// and nothing changes.
func TestDouble(t *testing.T) {
	for _, many := range sizes {
		for i := range many {
			n, list := mixed(t, 6, many)
			if many == most {
				if n.Double(6, i) {
					t.Errorf("Double %d of a full lane isn't refused", i)
				}
			} else {
				checkDouble(t, n, 6, i)
				list = append(list, list[i])
			}
			checkLane(t, n, 6, list)
		}
	}
}

// P20.2 Double: till 200 are there, and no more, while other lanes have room.
func TestDoubleTillFull(t *testing.T) {
	n := net.New()
	checkPut(t, n, 2, "twice")
	want := good("twice")
	for k := 1; k < most; k++ {
		checkDouble(t, n, 2, k/2)
		want = append(want, told{text: "twice"})
	}
	for i := range most {
		if n.Double(2, i) {
			t.Errorf("Double %d of a full lane isn't refused", i)
		}
	}
	checkPut(t, n, 3, "other")
	checkDouble(t, n, 3, 0)
	checkTake(t, n, 2, 0, "twice")
	checkDouble(t, n, 2, most-2)
	if n.Double(2, 0) {
		t.Error("Double of a full lane isn't refused")
	}
	checkAll(t, n, content{2: want, 3: good("other", "other")})
}

// P20.2 Double: of one without bytes, and of a doubled one.
func TestDoubleOfMore(t *testing.T) {
	n := net.New()
	checkPut(t, n, 0, "", "a")
	checkDouble(t, n, 0, 0)
	checkDouble(t, n, 0, 1)
	checkDouble(t, n, 0, 3)
	checkDouble(t, n, 0, 2)
	checkLane(t, n, 0, good("", "a", "", "a", "a", ""))
}

// P20.2 Late: of each place, it is behind the others, as SPOILT as it was; the others keep their order. A lane that is
// full has room for it.
func TestLate(t *testing.T) {
	for _, many := range sizes {
		for i := range many {
			n, list := mixed(t, 7, many)
			checkLate(t, n, 7, i)
			late := list[i]
			checkLane(t, n, 7, append(slices.Delete(list, i, i+1), late))
		}
	}
}

// P20.2 Late: again and again, all are where they were behind as many as there are.
func TestLateAround(t *testing.T) {
	for _, many := range sizes {
		n, list := mixed(t, 5, many)
		for range many {
			checkLate(t, n, 5, 0)
		}
		for range 5 {
			checkLate(t, n, 5, many-1)
		}
		checkLane(t, n, 5, list)
	}
}

// P20.1, P20.2: what happens on one lane changes none of the others.
func TestLanesAreApart(t *testing.T) {
	for lane := 1; lane < lanes; lane++ {
		for kind := range 5 {
			n, all := busy(t)
			switch list := all[lane]; kind {
			case 0:
				if n.Put(lane, []byte("new")) {
					all[lane] = append(list, told{text: "new"})
				}
			case 1:
				checkTake(t, n, lane, 1, list[1].text)
				all[lane] = slices.Delete(list, 1, 2)
			case 2:
				if n.Double(lane, 1) {
					all[lane] = append(list, list[1])
				}
			case 3:
				checkLate(t, n, lane, 1)
				all[lane] = append(slices.Delete(slices.Clone(list), 1, 2), list[1])
			case 4:
				checkSpoil(t, n, lane, 0, 5, 3, true)
				list[0] = told{string(crc.Burst([]byte(list[0].text), 5, 3)), true}
			}
			checkAll(t, n, all)
		}
	}
}
