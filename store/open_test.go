package store_test

import (
	"fmt"
	"math"
	"slices"
	"testing"

	"cloakroom/api"
	"cloakroom/sector"
	"cloakroom/store"
	"cloakroom/tape"
)

// taped is a tape with these batches, so many of them safe.
func taped(t *testing.T, safe int, list ...api.Batch) *tape.Tape {
	t.Helper()
	x := tape.New(mostTape)
	errno(t, "Append", x.Append(row(list[:safe]...)), api.OK)
	x.Sync()
	errno(t, "Append", x.Append(row(list[safe:]...)), api.OK)
	return x
}

// driven is a drive with these pages, all stable; a zero page is a sector without bytes.
func driven(t *testing.T, list ...api.Page) *sector.Drive {
	t.Helper()
	d := sector.New(len(list))
	for n, x := range list {
		if x != (api.Page{}) {
			errno(t, "Write", d.Write(n, form(x)), api.OK)
		}
	}
	d.Sync()
	return d
}

// noStore asks for an Open that fails.
func noStore(t *testing.T, x *tape.Tape, d *sector.Drive, frames int, want api.Errno) {
	t.Helper()
	if s, e := store.Open(x, d, frames); s != nil || e != want {
		t.Errorf("Open: %v, %d, not none and %d", s, e, want)
	}
}

// P9.1: an empty tape and an empty drive, with every number of sectors and of frames, also those that can't be.
func TestOpenOfNothing(t *testing.T) {
	for sectors := range most + 1 {
		for _, frames := range []int{math.MinInt, -1 << 32, -6, -1, 0, 1, 2, 3, 4, 5, 6, 7, 8, 1 << 32, 1<<32 + 1, math.MaxInt} {
			for _, room := range []int{math.MinInt, 0, mostTape, math.MaxInt} {
				w := opened(t, tape.New(room), sector.New(sectors), frames)
				w.log(t, 0, 0)
				w.tape(t, 0)
				w.loose(t)
				w.has(t, make([]api.Page, sectors)...)
				w.log(t, 0, 0)
				w.loose(t)
			}
		}
	}
}

// P9.1: so many frames, at least one and at most 6: a page is written when there are more pages than frames.
func TestOpenWithSoManyFrames(t *testing.T) {
	sizes := []struct{ frames, want int }{{math.MinInt, 1}, {-1, 1}, {0, 1}, {1, 1}, {2, 2}, {3, 3}, {4, 4}, {5, 5}, {6, 6}, {7, 6}, {math.MaxInt, 6}}
	for _, size := range sizes {
		w := newWorld(t, most, size.frames)
		var all []api.Batch
		for n := range most {
			b := commit(n+1, put(n, 0, 1))
			w.commit(t, b)
			all = append(all, b)
			if many := len(w.d.Loose()); many != max(n+1-size.want, 0) {
				t.Errorf("with %d frames %d pages are written behind %d commits", size.frames, many, n+1)
			}
		}
		w = opened(t, taped(t, 0, all...), sector.New(most), size.frames)
		if many := len(w.d.Loose()); many != most-size.want {
			t.Errorf("with %d frames an Open has written %d pages", size.frames, many)
		}
		w.has(t, after(most, all...)...)
	}
}

// P9.1: the commits of a tape, from the first one on, any number of them safe, with every number of frames.
func TestOpenOfCommits(t *testing.T) {
	for frames := 0; frames <= most+1; frames++ {
		for many := range len(some()) + 1 {
			for safe := range many + 1 {
				all := some()[:many]
				x := taped(t, safe, all...)
				w := opened(t, x, sector.New(most), frames)
				if frames >= most {
					w.tape(t, safe, all...)
					w.log(t, many, safe, all...)
					w.loose(t)
				}
				w.has(t, after(most, all...)...)
				w.log(t, many, w.s.Durable(), all...)
				w.commit(t, commit(many+1, put(2, 2, 2)))
			}
		}
	}
}

// P9.1: what stands behind the whole batches is cut off the tape.
func TestOpenCuts(t *testing.T) {
	for _, behind := range [][]byte{{0}, row(commit(7, put(0, 0, 1)))[:41], row(commit(9)), row(mark(5)), make([]byte, 3000)} {
		x := taped(t, 6, some()...)
		errno(t, "Append", x.Append(behind), api.OK)
		w := opened(t, x, sector.New(most), most)
		w.tape(t, 6, some()...)
		w.log(t, 6, 6, some()...)
		w.has(t, after(most, some()...)...)
		w.commit(t, commit(7))
		w.tape(t, 6, append(some(), commit(7))...)
	}
}

// P9.1: MARKs are no commits: what is ahead of one is Set as what is behind it.
func TestOpenOfMarks(t *testing.T) {
	all := []api.Batch{mark(4), commit(5, put(0, 0, 1)), mark(5), mark(5), commit(6, put(0, 0, 2), put(1, 0, 3)), mark(6)}
	x := taped(t, 3, all...)
	w := opened(t, x, sector.New(2), 2)
	w.tape(t, 3, all...)
	w.log(t, 6, 5, all[1], all[4])
	w.has(t, after(2, all[1], all[4])...)
	w = opened(t, taped(t, 1, mark(maxNum)), sector.New(2), 2)
	w.log(t, maxNum, maxNum)
	w.has(t, api.Page{}, api.Page{})
	w = opened(t, taped(t, 1, mark(0)), sector.New(2), 2)
	w.log(t, 0, 0)
	w.commit(t, commit(1))
}

// old is a page as it was with that LSN: its objects are none of those that the tests put.
func old(lsn int) api.Page {
	return api.Page{LSN: lsn, Objs: [4]complex128{100, 101, 102, 103}}
}

// P9.1: a Put is Set where its page has an LSN below the Batch's: not where it has the same, or one above.
func TestOpenByLSN(t *testing.T) {
	all := []api.Batch{commit(4, put(0, 0, 1), put(1, 0, 1)), commit(5, put(0, 1, 2), put(1, 1, 2)), commit(6, put(0, 2, 3), put(1, 0, 3))}
	for lsn := range 9 {
		for other := range 9 {
			for frames := 1; frames <= 2; frames++ {
				want := []api.Page{old(lsn), old(other)}
				for _, b := range all {
					for n := range want {
						if want[n].LSN < b.LSN {
							want[n].LSN = b.LSN
							want[n].Objs[b.Puts[n].Obj] = b.Puts[n].Value
						}
					}
				}
				w := opened(t, taped(t, 3, all...), driven(t, old(lsn), old(other)), frames)
				w.has(t, want...)
				w.log(t, 6, 6, all...)
			}
		}
	}
}

// P9.1: LSNs at their edges.
func TestOpenByLSNAtEdges(t *testing.T) {
	type row struct{ page, batch int }
	for _, r := range []row{{0, 1}, {1, 1}, {1, 2}, {maxNum, 1}, {maxNum - 2, maxNum - 1}, {maxNum - 1, maxNum - 1}, {maxNum, maxNum - 1}, {0, maxNum}, {maxNum - 1, maxNum}, {maxNum, maxNum}} {
		b := commit(r.batch, put(0, 0, 1), put(0, 3, 2))
		w := opened(t, taped(t, 1, b), driven(t, old(r.page)), 1)
		want := old(r.page)
		if r.page < r.batch {
			want = api.Page{LSN: r.batch, Objs: [4]complex128{1, 101, 102, 2}}
		}
		w.has(t, want)
		w.log(t, r.batch, r.batch, b)
	}
}

// P9.1: several Puts of one Batch on the same page are all Set, or none of them; each page by itself.
func TestOpenOfManyPutsOnAPage(t *testing.T) {
	for set := range 1 << objs {
		var puts []api.Put
		for n := range 2 {
			for obj := range objs {
				if set>>obj&1 == 1 {
					puts = append(puts, put(n, obj, complex(float64(obj), float64(n))))
				}
			}
		}
		b := commit(5, puts...)
		for lsn := 3; lsn <= 6; lsn++ {
			for other := 3; other <= 6; other++ {
				want := []api.Page{old(lsn), old(other)}
				for n := range want {
					if want[n].LSN >= 5 {
						continue
					}
					for _, p := range puts {
						if p.Page == n {
							want[n].LSN = 5
							want[n].Objs[p.Obj] = p.Value
						}
					}
				}
				for frames := 1; frames <= 2; frames++ {
					opened(t, taped(t, 1, b), driven(t, old(lsn), old(other)), frames).has(t, want...)
				}
			}
		}
	}
}

// P9.1: a page that a Batch leaves as it is is not written, nor is one that no Put is on.
func TestOpenWritesOnlyWhatIsSet(t *testing.T) {
	b := commit(5, places(mostPuts)...)
	w := opened(t, taped(t, 1, b), driven(t, old(5), old(6), old(5), old(maxNum), old(5), old(7)), 1)
	w.has(t, old(5), old(6), old(5), old(maxNum), old(5), old(7))
	w.loose(t)
	w = opened(t, taped(t, 1, b), driven(t, old(5), old(4), old(5), old(4), old(5), old(7)), 1)
	w.has(t, old(5), after(most, b)[1], old(5), after(most, b)[3], old(5), old(7))
	w.loose(t, 1, 3)
	w = opened(t, taped(t, 1, commit(5, put(2, 0, 1))), sector.New(most), 1)
	w.has(t, after(most, commit(5, put(2, 0, 1)))...)
	w.loose(t, 2)
}

// P9.1: the Log is not Forced by an Open, but where a page is FLUSHED whose LSN isn't Durable.
func TestOpenForces(t *testing.T) {
	one, two, three := commit(1, put(0, 0, 1)), commit(2, put(0, 0, 2)), commit(3, put(1, 0, 3))
	rows := []struct {
		safe, frames, want int
		list               []api.Batch
	}{
		{0, 1, 0, []api.Batch{one, two}},        // one page, in its frame
		{0, 2, 0, []api.Batch{one, two, three}}, // a frame for each
		{0, 1, 3, []api.Batch{one, two, three}}, // page 0 is FLUSHED, with LSN 2
		{1, 1, 3, []api.Batch{one, two, three}},
		{2, 1, 2, []api.Batch{one, two, three}}, // it is Durable already
		{3, 1, 3, []api.Batch{one, two, three}},
		{0, 1, 0, nil},
	}
	for _, r := range rows {
		for more := range 3 {
			// Commits without Puts are behind those.
			list := slices.Clone(r.list)
			for range more {
				list = append(list, commit(len(list)+1))
			}
			want := r.want
			if want > r.safe {
				want += more
			}
			w := opened(t, taped(t, r.safe, list...), sector.New(2), r.frames)
			w.tape(t, want, list...)
			w.log(t, len(list), want, list...)
			w.has(t, after(2, list...)...)
		}
	}
}

// P9.1: a Put on a page that is no sector of the drive is layer 5's error, and there is no store.
func TestOpenOutside(t *testing.T) {
	for sectors := range most {
		for n := sectors; n < most; n++ {
			for _, frames := range []int{-1, 1, 6, 7} {
				all := []api.Batch{commit(1), commit(2, put(n, 0, 1)), commit(3)}
				if sectors > 0 {
					all[0], all[2] = commit(1, put(0, 0, 1)), commit(3, put(0, 0, 2))
				}
				noStore(t, taped(t, 3, all...), sector.New(sectors), frames, api.ErrSector)
				noStore(t, taped(t, 0, all...), sector.New(sectors), frames, api.ErrSector)
				if sectors > 0 {
					noStore(t, taped(t, 1, commit(1, put(0, 0, 1), put(n, 0, 1))), sector.New(sectors), frames, api.ErrSector)
				}
				noStore(t, taped(t, 2, mark(0), commit(1, put(n, 3, 1))), sector.New(sectors), frames, api.ErrSector)
			}
		}
	}
}

// others holds bytes that are no page's.
func others() [][]byte {
	whole := form(old(3))
	turned := slices.Clone(whole)
	turned[20] ^= 4
	return [][]byte{{0}, []byte("none"), whole[:68], append(slices.Clone(whole), 0), turned, make([]byte, 69), make([]byte, 100)}
}

// P9.1: a Put on a page whose sector has bytes that are none's is layer 4's error, and there is no store; with other bytes there, it can be opened.
func TestOpenOfOtherBytes(t *testing.T) {
	for _, other := range others() {
		for n := range 3 {
			for frames := 1; frames <= 3; frames++ {
				all := []api.Batch{commit(1, put(0, 0, 1)), commit(2, put(1, 0, 1), put(1, 1, 2)), commit(3, put(2, 0, 1))}
				x, d := taped(t, 1, all...), sector.New(3)
				d.Write(n, other)
				noStore(t, x, d, frames, api.ErrPage)
				noStore(t, x, d, frames, api.ErrPage)
				d.Write(n, nil)
				opened(t, x, d, frames).has(t, after(3, all...)...)
			}
		}
	}
}

// P9.1: a sector with bytes that are none's which no Put is on is no error till it is asked for.
func TestOpenBesideOtherBytes(t *testing.T) {
	b := commit(1, put(0, 0, 1), put(2, 0, 1))
	d := sector.New(3)
	d.Write(1, []byte("none"))
	w := opened(t, taped(t, 1, b), d, 1)
	w.page(t, 0, after(3, b)[0])
	w.page(t, 2, after(3, b)[2])
	w.noPage(t, 1, api.ErrPage)
	w.noMap(t, api.ErrPage)
	w.commit(t, commit(2, put(0, 1, 2)))
	w.page(t, 0, after(3, b, commit(2, put(0, 1, 2)))[0])
}

// P9.1: the first error is answered, in the order of the commits and of their Puts.
func TestFirstErrorOfOpen(t *testing.T) {
	rows := []struct {
		list []api.Batch
		want api.Errno
	}{
		{[]api.Batch{commit(1, put(1, 0, 1)), commit(2, put(4, 0, 1))}, api.ErrPage},
		{[]api.Batch{commit(1, put(4, 0, 1)), commit(2, put(1, 0, 1))}, api.ErrSector},
		{[]api.Batch{commit(1, put(1, 0, 1), put(4, 0, 1))}, api.ErrPage},
		{[]api.Batch{commit(1, put(0, 0, 1)), commit(2, put(0, 0, 1), put(5, 0, 1)), commit(3, put(1, 0, 1))}, api.ErrSector},
	}
	for _, r := range rows {
		for frames := 1; frames <= 3; frames++ {
			d := sector.New(3)
			d.Write(1, []byte("none"))
			noStore(t, taped(t, len(r.list), r.list...), d, frames, r.want)
		}
	}
}

// P9.1: two Opens, one behind the other, with all numbers of frames: the same pages, the same log.
func TestOpenAgain(t *testing.T) {
	for frames := 1; frames <= most; frames++ {
		for then := 1; then <= most; then++ {
			w := newWorld(t, most, frames)
			for _, b := range some() {
				w.commit(t, b)
			}
			w = opened(t, w.x, w.d, then)
			w.has(t, after(most, some()...)...)
			w = opened(t, w.x, w.d, frames)
			w.has(t, after(most, some()...)...)
			w.log(t, 6, w.s.Durable(), some()...)
			if got := fmt.Sprint(w.x.Bytes()); got != fmt.Sprint(row(some()...)) {
				t.Errorf("the tape has other bytes: %s", got)
			}
		}
	}
}

// P9.1: a tape that is full, or has less room than is on it, loses nothing.
func TestOpenWithoutRoom(t *testing.T) {
	for _, room := range []int{0, 1, len(row(some()...))} {
		x := taped(t, 3, some()...)
		x.Limit(room)
		w := opened(t, x, sector.New(most), 2)
		w.has(t, after(most, some()...)...)
		w.fails(t, commit(7), api.ErrFull)
		w.log(t, 6, w.s.Durable(), some()...)
	}
}
