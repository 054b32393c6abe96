package cache_test

import (
	"fmt"
	"math"
	"slices"
	"testing"

	"cloakroom/cache"
)

// wrong are numbers that are no page, object or mask, where least is the first one above the greatest: those about the
// edges of 64 bits, and such as have the lowest bits of those that can be.
func wrong(least int) []int {
	return []int{math.MinInt, math.MinInt + 1, math.MinInt + 3, math.MinInt32, -1<<32 + 1, -256, -64, -16, -15, -8, -2, -1, least, least + 1, 2*least + 1, 63, 64, 65,
		255, 256, 257, 1 << 31, 1 << 32, 1<<32 + 1, 1<<32 + 3, 1<<62 + 1, math.MaxInt - 1, math.MaxInt}
}

// several are a cache with nothing in it, one with room left, and one without.
func several(t *testing.T) []*cache.Cache {
	t.Helper()
	partly := filled(t, 4, 3, 1, 0)
	partly.Drop(3, 8, 2)
	partly.Drop(1, 1, 4)
	return []*cache.Cache{cache.New(3), partly, filled(t, 2, 1, 5)}
}

// checkRefused makes one call with something that can't be, which says whether it answered as it has to.
func checkRefused(t *testing.T, c *cache.Cache, what string, call func() bool) {
	t.Helper()
	before := show(c)
	if !call() {
		t.Errorf("%s isn't refused", what)
	}
	if show(c) != before {
		t.Errorf("%s has changed something", what)
	}
}

// checkRefusedPut makes a Put that can't be, with all that may be kept.
func checkRefusedPut(t *testing.T, c *cache.Cache, page, copies, own int) {
	t.Helper()
	for _, keep := range [][]int{nil, {page}, {0, 1, 2, 3, 4, 5}} {
		checkRefused(t, c, fmt.Sprintf("Put %d %d %d, keep %d", page, copies, own, keep), func() bool {
			went, ok := c.Put(page, copies, own, values(2, 9), keep)
			return went == -1 && !ok
		})
	}
}

// checkRefusedDrop makes a Drop that can't be.
func checkRefusedDrop(t *testing.T, c *cache.Cache, page, copies, own int) {
	t.Helper()
	checkRefused(t, c, fmt.Sprintf("Drop %d %d %d", page, copies, own), func() bool {
		c.Drop(page, copies, own)
		return true
	})
}

// P16.1, P16.2: of pages that can't be the answer is zero, false, and nothing changes; Put's first one is -1.
func TestNoPage(t *testing.T) {
	for _, c := range several(t) {
		for _, page := range wrong(pages) {
			for _, masks := range [][2]int{{0, 0}, {1, 0}, {1, 1}, {6, 2}, {all, all}, {1, 2}} {
				checkRefusedPut(t, c, page, masks[0], masks[1])
				checkRefusedDrop(t, c, page, masks[0], masks[1])
			}
			for k := range objs {
				checkNoGet(t, c, page, k)
				checkSet(t, c, page, k, 1, false)
			}
			at := fmt.Sprintf("page %d: ", page)
			checkRefused(t, c, at+"Copies", func() bool { return c.Copies(page) == 0 })
			checkRefused(t, c, at+"Own", func() bool { return c.Own(page) == 0 })
		}
	}
}

// P16.2: of objects that can't be the answer is zero, false, and nothing changes.
func TestNoObject(t *testing.T) {
	for _, c := range several(t) {
		for _, obj := range wrong(objs) {
			for page := range pages {
				checkNoGet(t, c, page, obj)
				checkSet(t, c, page, obj, 1, false)
			}
			checkNoGet(t, c, obj, obj)
			checkSet(t, c, obj, obj, 1, false)
		}
	}
}

// P16.1, P16.2: masks that can't be change nothing, not even by what the other one says; Put answers -1 and false.
func TestNoMask(t *testing.T) {
	for _, c := range several(t) {
		for page := range pages {
			for _, mask := range wrong(all + 1) {
				for _, other := range []int{0, 1, 8, all, mask} {
					checkRefusedPut(t, c, page, mask, other)
					checkRefusedPut(t, c, page, other, mask)
					checkRefusedDrop(t, c, page, mask, other)
					checkRefusedDrop(t, c, page, other, mask)
				}
			}
		}
	}
}

// P16.1: an own that copies doesn't hold is refused, for all masks, where the page is there and where it isn't.
func TestPutOfOwnWithoutCopy(t *testing.T) {
	for _, c := range several(t) {
		for copies := range all + 1 {
			for own := range all + 1 {
				if own&^copies != 0 {
					for page := range pages {
						checkRefusedPut(t, c, page, copies, own)
					}
				}
			}
		}
	}
}

// P1: every call ends without a panic at all arguments.
func TestAllArguments(t *testing.T) {
	numbers := append(wrong(all+1), 0, 1, 3, 4, 5, 6, 15)
	for _, many := range numbers {
		c := cache.New(many)
		for _, a := range numbers {
			c.Copies(a)
			c.Own(a)
			for _, b := range numbers {
				c.Get(a, b)
				c.Set(a, b, 1)
				for _, d := range numbers {
					c.Put(a, b, d, values(0, 0), []int{b, a, d})
					c.Drop(a, d, b)
				}
			}
			c.Pages()
		}
		c.Clear()
	}
}

// P1: a list of pages to keep may be of any length.
func TestLongKeep(t *testing.T) {
	keep := make([]int, 200000)
	for k := range keep {
		keep[k] = k - 1000
	}
	c := filled(t, 2, 3, 1)
	checkPut(t, c, 0, 1, 1, values(0, 0), keep, -1, false)
	keep[1003] = -1
	checkPut(t, c, 0, 1, 1, values(0, 0), keep, 3, true)
	checkPages(t, c, 1, 0)
}

// What Pages tells is new memory: written over, spare room too, it changes neither the cache nor another answer.
func TestPagesAreNewMemory(t *testing.T) {
	c := filled(t, 4, 3, 1, 5)
	before := show(c)
	first, second := c.Pages(), c.Pages()
	for k := range first[:cap(first)] {
		first[:cap(first)][k] = 99
	}
	if !slices.Equal(second, []int{3, 1, 5}) {
		t.Errorf("what was told is %d", second)
	}
	if show(c) != before {
		t.Error("other answers behind a change of what Pages told")
	}
	checkGet(t, c, 3, 0, values(3, 0)[0])
	c.Drop(1, all, 0)
	checkPut(t, c, 0, 1, 0, values(0, 0), nil, -1, true)
	if !slices.Equal(second, []int{3, 1, 5}) {
		t.Errorf("behind other calls what was told is %d", second)
	}
	c.Clear()
	if !slices.Equal(second, []int{3, 1, 5}) {
		t.Errorf("behind a Clear what was told is %d", second)
	}
}

// keep is not changed, spare room included, and not kept: written over behind the call, it changes nothing.
func TestKeepIsNotKept(t *testing.T) {
	for _, went := range []int{-1, 1} {
		c := filled(t, 2, 3, 1)
		room := []int{5, 3, 0, 3, 2, 4, 9, 9}
		if went < 0 {
			room[2] = 1
		}
		given := slices.Clone(room)
		checkPut(t, c, 2, 3, 2, values(2, 0), room[1:4], went, went >= 0)
		if !slices.Equal(room, given) {
			t.Errorf("keep is %d, and was %d", room, given)
		}
		before := show(c)
		for k := range room {
			room[k] = 2
		}
		if show(c) != before {
			t.Error("other answers behind a change of keep")
		}
		checkPut(t, c, 4, 1, 0, values(4, 0), nil, 3, true)
	}
}

// values is an array of the caller's own: it isn't changed, and changed behind the call it changes nothing.
func TestValuesAreTheCallers(t *testing.T) {
	c := cache.New(2)
	given := values(1, 0)
	checkPut(t, c, 1, all, all, given, nil, -1, true)
	checkPut(t, c, 2, 5, 1, given, nil, -1, true)
	checkSet(t, c, 1, 2, 70, true)
	checkSet(t, c, 2, 0, 80, true)
	if given != values(1, 0) {
		t.Errorf("the values are %v", given)
	}
	for k := range given {
		given[k] = -1
	}
	want := values(1, 0)
	want[2] = 70
	checkObjs(t, c, 1, all, want)
	want = values(1, 0)
	want[0] = 80
	checkObjs(t, c, 2, 5, want)
}

// row is a row of calls that hangs on where the noise begins alone, and all that is told on the way.
func row(seed int, between func(d deed)) ([]answer, []shown) {
	n := noise(1 + 977*seed)
	c := cache.New(1 + seed%pages)
	var answers []answer
	var list []shown
	for range 60 {
		d := n.deed(pages)
		between(d)
		answers = append(answers, d.do(c))
		list = append(list, show(c))
	}
	return answers, list
}

// P2: what a cache answers hangs on the calls to it alone, whatever is asked of others in between.
func TestCachesAreApart(t *testing.T) {
	for seed := range 60 {
		answers, list := row(seed, func(deed) {})
		other := cache.New(seed % (pages + 1))
		again, listAgain := row(seed, func(d deed) {
			d.page, d.kind = (d.page+1)%pages, (d.kind+seed)%(wipe+1)
			d.do(other)
			cache.New(3).Put(1, all, all, values(1, 0), nil)
		})
		if !slices.Equal(answers, again) || !slices.Equal(list, listAgain) {
			t.Errorf("row %d: other answers the second time", seed)
		}
	}
}

// P2: two caches with the same pages don't touch each other.
func TestTwoCaches(t *testing.T) {
	a, b := filled(t, 2, 3, 1), filled(t, 2, 3, 1)
	before := show(b)
	checkSet(t, a, 3, 0, 9, true)
	checkPut(t, a, 5, 1, 0, values(5, 0), nil, 1, true)
	a.Drop(3, 2, 4)
	if show(b) != before {
		t.Error("calls to one have changed the other")
	}
	a.Clear()
	if show(b) != before {
		t.Error("a Clear of one has changed the other")
	}
	before = show(a)
	b.Clear()
	if show(a) != before {
		t.Error("a Clear of the other has changed the one")
	}
}

// P2: asking for what is there changes nothing, however often.
func TestAskingChangesNothing(t *testing.T) {
	for _, c := range several(t) {
		before := show(c)
		for range 3 {
			if show(c) != before {
				t.Fatal("asked again, it tells something else")
			}
		}
	}
}
