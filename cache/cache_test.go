package cache_test

import (
	"math"
	"slices"
	"testing"

	"cloakroom/cache"
	"cloakroom/cnum"
)

const (
	pages = 6
	objs  = 4
	all   = 15
)

// values are those of a page's objects, which no other page and no other Put has.
func values(page, put int) [objs]complex128 {
	var list [objs]complex128
	for k := range list {
		list[k] = complex(float64(10*page+k), float64(put))
	}
	return list
}

// filled is a cache with room for so many pages, into which these were put: all that can be had of each.
func filled(t *testing.T, many int, list ...int) *cache.Cache {
	t.Helper()
	c := cache.New(many)
	for _, page := range list {
		checkPut(t, c, page, all, all, values(page, 0), nil, -1, true)
	}
	checkPages(t, c, list...)
	return c
}

func checkPut(t *testing.T, c *cache.Cache, page, copies, own int, values [objs]complex128, keep []int, wantWent int, want bool) {
	t.Helper()
	before := show(c)
	if went, ok := c.Put(page, copies, own, values, keep); went != wantWent || ok != want {
		t.Errorf("Put %d %d %d, keep %d: %d %t, not %d %t", page, copies, own, keep, went, ok, wantWent, want)
	}
	if !want && show(c) != before {
		t.Errorf("Put %d %d %d, keep %d was refused and has changed something", page, copies, own, keep)
	}
}

func checkPages(t *testing.T, c *cache.Cache, want ...int) {
	t.Helper()
	if list := c.Pages(); !slices.Equal(list, want) {
		t.Errorf("the pages are %d, not %d", list, want)
	}
}

func checkMasks(t *testing.T, c *cache.Cache, page, copies, own int) {
	t.Helper()
	if c.Copies(page) != copies || c.Own(page) != own {
		t.Errorf("page %d: %d are copies and %d owned, not %d and %d", page, c.Copies(page), c.Own(page), copies, own)
	}
}

func checkGet(t *testing.T, c *cache.Cache, page, obj int, want complex128) {
	t.Helper()
	if v, ok := c.Get(page, obj); !ok || !cnum.Same(v, want) {
		t.Errorf("Get %d %d: %v %t, not %v", page, obj, v, ok, want)
	}
}

// checkNoGet asks for what can't be had: nothing is used by it, either.
func checkNoGet(t *testing.T, c *cache.Cache, page, obj int) {
	t.Helper()
	before := show(c)
	if v, ok := c.Get(page, obj); ok || !cnum.Same(v, 0) {
		t.Errorf("Get %d %d: %v %t", page, obj, v, ok)
	}
	if show(c) != before {
		t.Errorf("Get %d %d was refused and has changed something", page, obj)
	}
}

// checkObjs asks for all objects of a page: those in copies have these values, the others none.
func checkObjs(t *testing.T, c *cache.Cache, page, copies int, values [objs]complex128) {
	t.Helper()
	for k := range objs {
		if copies>>k&1 == 1 {
			checkGet(t, c, page, k, values[k])
		} else {
			checkNoGet(t, c, page, k)
		}
	}
}

func checkSet(t *testing.T, c *cache.Cache, page, obj int, v complex128, want bool) {
	t.Helper()
	before := show(c)
	if ok := c.Set(page, obj, v); ok != want {
		t.Errorf("Set %d %d: %t", page, obj, ok)
	}
	if !want && show(c) != before {
		t.Errorf("Set %d %d was refused and has changed something", page, obj)
	}
}

// eachMasks calls for all masks that a page can have, none among them.
func eachMasks(do func(copies, own int)) {
	for copies := range all + 1 {
		for own := range all + 1 {
			if own&^copies == 0 {
				do(copies, own)
			}
		}
	}
}

// The chapter's example.
func TestExample(t *testing.T) {
	for first := range pages {
		for second := range pages {
			if first != second {
				c := cache.New(1)
				checkPut(t, c, first, 1, 0, values(first, 0), nil, -1, true)
				checkPut(t, c, second, 1, 0, values(second, 0), nil, first, true)
				checkPages(t, c, second)
			}
		}
	}
}

// P16.1: room for so many pages, below 1 for one, above 6 for six.
func TestNewHasRoom(t *testing.T) {
	rooms := map[int]int{1: 1, 2: 2, 3: 3, 4: 4, 5: 5, 6: 6}
	for _, many := range []int{0, -1, -2, -6, -256, math.MinInt32, -1<<32 + 3, math.MinInt + 3, math.MinInt + 1, math.MinInt} {
		rooms[many] = 1
	}
	for _, many := range []int{7, 8, 9, 255, 256, 257, math.MaxInt32, 1 << 32, 1<<32 + 1, 1 << 62, math.MaxInt - 1, math.MaxInt} {
		rooms[many] = pages
	}
	for many, room := range rooms {
		c := cache.New(many)
		var there []int
		for page := range pages {
			went := -1
			if len(there) == room {
				went, there = there[0], there[1:]
			}
			there = append(there, page)
			checkPut(t, c, page, 1, 0, values(page, 0), nil, went, true)
			checkPages(t, c, there...)
		}
	}
}

// P16.1: none is there.
func TestNewHasNoPages(t *testing.T) {
	for many := range pages + 2 {
		c := cache.New(many)
		checkPages(t, c)
		for page := range pages {
			checkMasks(t, c, page, 0, 0)
			for k := range objs {
				checkNoGet(t, c, page, k)
				checkSet(t, c, page, k, 1, false)
			}
		}
		c.Clear()
		checkPages(t, c)
	}
}

// P16.1: a page that isn't there is put with all masks that can be, where there is room: none goes, and it is used.
func TestPutWithRoom(t *testing.T) {
	eachMasks(func(copies, own int) {
		for page := range pages {
			c := filled(t, 3, (page+2)%pages, (page+1)%pages)
			checkPut(t, c, page, copies, own, values(page, 1), nil, -1, true)
			checkMasks(t, c, page, copies, own)
			if copies == 0 {
				checkPages(t, c, (page+2)%pages, (page+1)%pages)
			} else {
				checkPages(t, c, (page+2)%pages, (page+1)%pages, page)
			}
			for _, other := range []int{(page + 2) % pages, (page + 1) % pages} {
				checkMasks(t, c, other, all, all)
				checkObjs(t, c, other, all, values(other, 0))
			}
			checkObjs(t, c, page, copies, values(page, 1))
		}
	})
}

// P16.1: without room the first in the order of use goes, in all rooms but the greatest, which has room for all.
func TestPutWithoutRoom(t *testing.T) {
	for room := 1; room < pages; room++ {
		var list []int
		for page := range room {
			list = append(list, (3+page)%pages)
		}
		c := filled(t, room, list...)
		for step := range 3 * pages {
			page := (3 + room + step) % pages
			checkPut(t, c, page, 6, 2, values(page, step), nil, list[0], true)
			checkMasks(t, c, list[0], 0, 0)
			checkObjs(t, c, list[0], 0, values(0, 0))
			list = append(list[1:], page)
			checkPages(t, c, list...)
			checkMasks(t, c, page, 6, 2)
			checkObjs(t, c, page, 6, values(page, step))
		}
	}
}

// P16.1: with room for six none ever goes.
func TestRoomForAll(t *testing.T) {
	c := filled(t, pages, 5, 4, 3, 2, 1, 0)
	for page := range pages {
		checkPut(t, c, page, 1, 0, values(page, 1), []int{0, 1, 2, 3, 4, 5}, -1, true)
	}
	checkPages(t, c, 0, 1, 2, 3, 4, 5)
}

// P16.1: without copies nothing comes to be there and none goes, whatever is to be kept, with room and without.
func TestPutOfNothing(t *testing.T) {
	for _, keep := range [][]int{nil, {}, {1}, {2, 1}, {0, 1, 2, 3, 4, 5}} {
		for _, room := range []int{2, 3} {
			c := filled(t, room, 2, 1)
			before := show(c)
			for _, page := range []int{0, 3, 4, 5} {
				checkPut(t, c, page, 0, 0, values(page, 1), keep, -1, true)
				checkMasks(t, c, page, 0, 0)
				if show(c) != before {
					t.Errorf("Put of nothing of page %d has changed something", page)
				}
			}
		}
	}
}

// P16.1: a page that is there has the new masks, its copies the new values, and it is used; others are left as they are.
func TestPutAgain(t *testing.T) {
	eachMasks(func(copies, own int) {
		if copies == 0 {
			return
		}
		eachMasks(func(then, thenOwn int) {
			if then == 0 {
				return
			}
			c := cache.New(2)
			checkPut(t, c, 3, copies, own, values(3, 0), nil, -1, true)
			checkPut(t, c, 5, 5, 4, values(5, 0), nil, -1, true)
			checkPut(t, c, 3, then, thenOwn, values(3, 1), []int{3, 5}, -1, true)
			checkPages(t, c, 5, 3)
			checkMasks(t, c, 3, then, thenOwn)
			checkMasks(t, c, 5, 5, 4)
			checkObjs(t, c, 3, then, values(3, 1))
			checkObjs(t, c, 5, 5, values(5, 0))
		})
	})
}

// P16.1: a page that is put again where there is no room lets none go, wherever it is in the order of use.
func TestPutAgainTakesNoRoom(t *testing.T) {
	for room := 1; room <= pages; room++ {
		for at := range room {
			var list []int
			for page := range room {
				list = append(list, page)
			}
			c := filled(t, room, list...)
			checkPut(t, c, at, 9, 8, values(at, 1), nil, -1, true)
			checkPages(t, c, append(slices.Delete(slices.Clone(list), at, at+1), at)...)
			checkMasks(t, c, at, 9, 8)
			for _, page := range list {
				if page != at {
					checkMasks(t, c, page, all, all)
					checkObjs(t, c, page, all, values(page, 0))
				}
			}
		}
	}
}

// P16.1: an object that was no copy for a while has the value of the Put that made it one again, and one that was a copy
// all the time that of the last Put.
func TestCopiesAgainLater(t *testing.T) {
	for k := range objs {
		mask := 1 << k
		c := cache.New(1)
		checkPut(t, c, 2, all, all, values(2, 0), nil, -1, true)
		checkPut(t, c, 2, all&^mask, 0, values(2, 1), nil, -1, true)
		checkObjs(t, c, 2, all&^mask, values(2, 1))
		checkPut(t, c, 2, all, mask, values(2, 2), nil, -1, true)
		checkObjs(t, c, 2, all, values(2, 2))
		c.Drop(2, mask, 0)
		checkObjs(t, c, 2, all&^mask, values(2, 2))
		checkPut(t, c, 2, mask, 0, values(2, 3), nil, -1, true)
		checkObjs(t, c, 2, mask, values(2, 3))
		checkPut(t, c, 2, all, 0, values(2, 4), nil, -1, true)
		checkObjs(t, c, 2, all, values(2, 4))
	}
}

// P16.1: put without copies, a page that is there is there no more: its room is free, and it has nothing of before when
// it is put anew.
func TestPutOfNothingTakesOut(t *testing.T) {
	for at, rest := range [][]int{{1, 2}, {0, 2}, {0, 1}} {
		c := filled(t, 3, 0, 1, 2)
		checkPut(t, c, at, 0, 0, values(at, 1), []int{0, 1, 2}, -1, true)
		checkPages(t, c, rest...)
		checkMasks(t, c, at, 0, 0)
		checkObjs(t, c, at, 0, values(at, 0))
		for k := range objs {
			checkSet(t, c, at, k, 7, false)
		}
		checkPut(t, c, 5, 1, 1, values(5, 0), []int{0, 1, 2}, -1, true)
		checkPages(t, c, append(rest, 5)...)
		checkPut(t, c, at, 2, 0, values(at, 2), nil, rest[0], true)
		checkPages(t, c, rest[1], 5, at)
		checkMasks(t, c, at, 2, 0)
		checkObjs(t, c, at, 2, values(at, 2))
	}
}

// P16.1: the first in the order of use that isn't to be kept goes.
func TestKeep(t *testing.T) {
	for _, k := range []struct {
		keep []int
		went int
	}{
		{nil, 3},
		{[]int{}, 3},
		{[]int{3}, 1},
		{[]int{1}, 3},
		{[]int{4}, 3},
		{[]int{1, 3}, 4},
		{[]int{3, 1}, 4},
		{[]int{4, 3}, 1},
		{[]int{4, 1}, 3},
		{[]int{3, 3, 3, 3}, 1},
		{[]int{3, 1, 3, 1}, 4},
		{[]int{0, 2, 5}, 3},
		{[]int{0, 3, 2}, 1},
		{[]int{0}, 3},
		{[]int{0, 0, 3, 1}, 4},
		{[]int{-1, 6, math.MinInt, math.MaxInt}, 3},
		{[]int{-1, 3, 7, 1<<32 + 1, 1<<32 + 4}, 1},
		{[]int{9, 3 - 6, 3 + 8, 3 + 16, 3 + 64, 3 + 256, 1<<32 + 3, math.MinInt + 3}, 3},
	} {
		c := filled(t, 3, 3, 1, 4)
		checkPut(t, c, 0, 8, 8, values(0, 0), k.keep, k.went, true)
		want := slices.DeleteFunc([]int{3, 1, 4, 0}, func(page int) bool { return page == k.went })
		checkPages(t, c, want...)
		checkMasks(t, c, 0, 8, 8)
		checkMasks(t, c, k.went, 0, 0)
		checkObjs(t, c, 0, 8, values(0, 0))
	}
}

// P16.1: where all are to be kept, false, and nothing changes: the order of use neither.
func TestKeepAll(t *testing.T) {
	for _, keep := range [][]int{{3, 1, 4}, {4, 3, 1}, {1, 1, 4, 3, 3}, {0, 1, 2, 3, 4, 5}, {-1, 4, 6, 3, 1, math.MaxInt}, {0, 4, 1, 3}} {
		c := filled(t, 3, 3, 1, 4)
		for _, page := range []int{0, 2, 5} {
			checkPut(t, c, page, 8, 8, values(page, 1), keep, -1, false)
			checkPages(t, c, 3, 1, 4)
			checkMasks(t, c, page, 0, 0)
			checkNoGet(t, c, page, 3)
		}
		checkPut(t, c, 0, 8, 8, values(0, 1), nil, 3, true)
	}
	for page := range pages {
		c := filled(t, 1, page)
		other := (page + 1) % pages
		checkPut(t, c, other, all, 0, values(other, 0), []int{page}, -1, false)
		checkPut(t, c, other, all, 0, values(other, 0), []int{other}, page, true)
	}
}

// P16.1: where there is room, none goes, whatever is to be kept.
func TestKeepWithRoom(t *testing.T) {
	for _, keep := range [][]int{nil, {}, {3}, {1, 3}, {0}, {0, 1, 2, 3, 4, 5}, {-1}} {
		c := filled(t, 3, 3, 1)
		checkPut(t, c, 0, 8, 8, values(0, 0), keep, -1, true)
		checkPages(t, c, 3, 1, 0)
	}
}

// P16.2: a copy's value is told, and its page is used: all of them, in whichever order they were.
func TestGet(t *testing.T) {
	list := []int{2, 5, 0, 4}
	for at, page := range list {
		for k := range objs {
			c := filled(t, 4, list...)
			checkGet(t, c, page, k, values(page, 0)[k])
			order := append(slices.Delete(slices.Clone(list), at, at+1), page)
			checkPages(t, c, order...)
			checkGet(t, c, page, k, values(page, 0)[k])
			checkPages(t, c, order...)
			checkMasks(t, c, page, all, all)
			checkPut(t, c, 3, 1, 0, values(3, 0), nil, order[0], true)
		}
	}
}

// P16.2: what is no copy isn't told, owned others beside it or not, and nothing is used.
func TestGetOfNoCopy(t *testing.T) {
	eachMasks(func(copies, own int) {
		if copies == 0 {
			return
		}
		c := cache.New(3)
		checkPut(t, c, 1, copies, own, values(1, 0), nil, -1, true)
		checkPut(t, c, 2, 1, 0, values(2, 0), nil, -1, true)
		for k := range objs {
			if copies>>k&1 == 0 {
				checkNoGet(t, c, 1, k)
			}
			for _, page := range []int{0, 3, 4, 5} {
				checkNoGet(t, c, page, k)
			}
		}
		checkPages(t, c, 1, 2)
	})
}

// P16.2: what is owned has the new value, nothing else changes, and its page is used.
func TestSet(t *testing.T) {
	list := []int{2, 5, 0, 4}
	for at, page := range list {
		for k := range objs {
			c := filled(t, 4, list...)
			checkSet(t, c, page, k, 100+7i, true)
			order := append(slices.Delete(slices.Clone(list), at, at+1), page)
			checkPages(t, c, order...)
			for _, other := range order {
				want := values(other, 0)
				if other == page {
					want[k] = 100 + 7i
				}
				checkMasks(t, c, other, all, all)
				checkObjs(t, c, other, all, want)
			}
			checkSet(t, c, page, k, -3, true)
			checkPages(t, c, order...)
			checkGet(t, c, page, k, -3)
			checkPut(t, c, 3, 1, 0, values(3, 0), nil, order[0], true)
		}
	}
}

// P16.2: what isn't owned can't be set, a copy or not, for all masks that can be, and nothing is used.
func TestSetOfNotOwned(t *testing.T) {
	eachMasks(func(copies, own int) {
		if copies == 0 {
			return
		}
		for k := range objs {
			c := cache.New(3)
			checkPut(t, c, 1, copies, own, values(1, 0), nil, -1, true)
			checkPut(t, c, 2, 1, 0, values(2, 0), nil, -1, true)
			owned := own>>k&1 == 1
			checkSet(t, c, 1, k, 50i, owned)
			want := values(1, 0)
			if owned {
				want[k] = 50i
				checkPages(t, c, 2, 1)
			} else {
				checkPages(t, c, 1, 2)
			}
			checkObjs(t, c, 1, copies, want)
			for _, page := range []int{0, 2, 3, 4, 5} {
				checkSet(t, c, page, k, 50i, false)
			}
		}
	})
}

// P16.2: Drop of all masks from all masks: what is in copies is owned no more either, what is in own alone stays a copy,
// with its value, and nothing is used; without copies the page is there no more.
func TestDrop(t *testing.T) {
	eachMasks(func(copies, own int) {
		if copies == 0 {
			return
		}
		for less := range all + 1 {
			for lessOwn := range all + 1 {
				c := cache.New(2)
				checkPut(t, c, 4, copies, own, values(4, 0), nil, -1, true)
				checkPut(t, c, 1, 7, 3, values(1, 0), nil, -1, true)
				c.Drop(4, less, lessOwn)
				left := copies &^ less
				checkMasks(t, c, 4, left, own&^less&^lessOwn)
				checkMasks(t, c, 1, 7, 3)
				if left == 0 {
					checkPages(t, c, 1)
				} else {
					checkPages(t, c, 4, 1)
				}
				checkObjs(t, c, 4, left, values(4, 0))
				checkObjs(t, c, 1, 7, values(1, 0))
			}
		}
	})
}

// P16.2: what is dropped can't be set any more, what is left can.
func TestSetBehindDrop(t *testing.T) {
	c := filled(t, 1, 3)
	c.Drop(3, 1, 2)
	checkMasks(t, c, 3, 14, 12)
	checkSet(t, c, 3, 0, 9, false)
	checkSet(t, c, 3, 1, 9, false)
	checkGet(t, c, 3, 1, values(3, 0)[1])
	checkSet(t, c, 3, 2, 9, true)
	checkGet(t, c, 3, 2, 9)
}

// P16.2: a page without copies is there no more: there is room for another one, and it may be put anew.
func TestDropMakesRoom(t *testing.T) {
	for at, rest := range [][]int{{1, 2}, {0, 2}, {0, 1}} {
		c := filled(t, 3, 0, 1, 2)
		c.Drop(at, 9, 0)
		c.Drop(at, 4, all)
		checkPages(t, c, 0, 1, 2)
		checkMasks(t, c, at, 2, 0)
		c.Drop(at, 2, 0)
		checkPages(t, c, rest...)
		checkMasks(t, c, at, 0, 0)
		checkNoGet(t, c, at, 1)
		checkPut(t, c, at, 1, 0, values(at, 1), []int{0, 1, 2}, -1, true)
		checkPages(t, c, append(rest, at)...)
		checkMasks(t, c, at, 1, 0)
		checkObjs(t, c, at, 1, values(at, 1))
	}
}

// P16.2: Drop of a page that isn't there changes nothing.
func TestDropOfNoPage(t *testing.T) {
	for _, c := range []*cache.Cache{cache.New(2), filled(t, 2, 3, 1), filled(t, 3, 1, 5)} {
		there := c.Pages()
		before := show(c)
		for page := range pages {
			if !slices.Contains(there, page) {
				c.Drop(page, all, all)
				c.Drop(page, 0, 3)
				c.Drop(page, 1, 0)
				checkMasks(t, c, page, 0, 0)
			}
		}
		if show(c) != before {
			t.Error("Drop of a page that isn't there has changed something")
		}
	}
}

// P16.2: Drop, Copies, Own and Pages use no page, so another one goes first than if they did.
func TestAskingAndDroppingDontUse(t *testing.T) {
	for _, do := range []func(c *cache.Cache){
		func(c *cache.Cache) { c.Drop(5, 1, 0) },
		func(c *cache.Cache) { c.Drop(5, 0, 1) },
		func(c *cache.Cache) { c.Drop(5, 0, 0) },
		func(c *cache.Cache) { c.Copies(5) },
		func(c *cache.Cache) { c.Own(5) },
		func(c *cache.Cache) { c.Pages() },
	} {
		c := filled(t, 3, 5, 2, 0)
		do(c)
		checkPages(t, c, 5, 2, 0)
		checkPut(t, c, 1, 1, 1, values(1, 0), nil, 5, true)
		checkPages(t, c, 2, 0, 1)
	}
}

// P16.2: Pages are in the order in which they were used, whatever used them.
func TestPages(t *testing.T) {
	c := cache.New(pages)
	for at, page := range []int{3, 0, 5, 1, 4, 2} {
		checkPut(t, c, page, all, 1, values(page, 0), nil, -1, true)
		checkPages(t, c, []int{3, 0, 5, 1, 4, 2}[:at+1]...)
	}
	checkGet(t, c, 5, 0, values(5, 0)[0])
	checkPages(t, c, 3, 0, 1, 4, 2, 5)
	checkSet(t, c, 3, 0, 1, true)
	checkPages(t, c, 0, 1, 4, 2, 5, 3)
	checkPut(t, c, 2, 1, 0, values(2, 1), nil, -1, true)
	checkPages(t, c, 0, 1, 4, 5, 3, 2)
	checkGet(t, c, 2, 0, values(2, 1)[0])
	checkPages(t, c, 0, 1, 4, 5, 3, 2)
	checkGet(t, c, 0, 3, values(0, 0)[3])
	checkPages(t, c, 1, 4, 5, 3, 2, 0)
	c.Drop(5, all, 0)
	checkPages(t, c, 1, 4, 3, 2, 0)
	checkPut(t, c, 5, 2, 0, values(5, 1), nil, -1, true)
	checkPages(t, c, 1, 4, 3, 2, 0, 5)
}

// P16.2: behind a Clear none is there, the room is as it was, and pages can be put anew, with nothing of before.
func TestClear(t *testing.T) {
	for room := 1; room <= pages; room++ {
		var list []int
		for page := range room {
			list = append(list, page)
		}
		c := filled(t, room, list...)
		for range 2 {
			c.Clear()
			if show(c) != show(cache.New(room)) {
				t.Errorf("room %d: behind a Clear something is there", room)
			}
			checkPages(t, c)
		}
		for _, page := range list {
			checkPut(t, c, page, 4, 0, values(page, 1), list, -1, true)
			checkMasks(t, c, page, 4, 0)
			checkObjs(t, c, page, 4, values(page, 1))
		}
		checkPages(t, c, list...)
		if room < pages {
			checkPut(t, c, 5, 1, 0, values(5, 1), nil, 0, true)
		}
	}
}

// strange are values that are easily made others: not numbers, infinities, zeros of both signs, and the least and greatest.
func strange() []complex128 {
	parts := []float64{0, math.Copysign(0, -1), 1, -1, math.NaN(), -math.NaN(), math.Float64frombits(0xFFF8000000000123), math.Inf(1), math.Inf(-1),
		math.SmallestNonzeroFloat64, -math.SmallestNonzeroFloat64, math.MaxFloat64, -math.MaxFloat64, 0.1}
	var list []complex128
	for _, re := range parts {
		for _, im := range parts {
			list = append(list, complex(re, im))
		}
	}
	return list
}

// P16.1, P16.2: values are kept as they are, whatever they are, put or set.
func TestStrangeValues(t *testing.T) {
	list := strange()
	for at, v := range list {
		row := [objs]complex128{v, list[(at+1)%len(list)], list[(at+5)%len(list)], list[(at+17)%len(list)]}
		c := cache.New(2)
		checkPut(t, c, 0, all, all, row, nil, -1, true)
		checkPut(t, c, 1, all, all, values(1, 0), nil, -1, true)
		checkObjs(t, c, 0, all, row)
		for k := range objs {
			checkSet(t, c, 1, k, row[k], true)
		}
		checkObjs(t, c, 1, all, row)
		checkPut(t, c, 1, all, all, row, nil, -1, true)
		checkObjs(t, c, 1, all, row)
		checkObjs(t, c, 0, all, row)
	}
}
