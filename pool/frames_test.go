package pool_test

import (
	"fmt"
	"slices"
	"testing"

	"cloakroom/api"
)

// takes asks for a page that isn't in a frame, and for what is held then.
func (w *world) takes(t *testing.T, n int, want ...int) {
	t.Helper()
	w.get(t, n, api.Page{})
	w.held(t, want...)
}

// P8.1 LOAD: the first empty frame is taken while there is one, whatever is USED or not; the HAND stays: the first page is the first that is taken out.
func TestEmptyFramesFirst(t *testing.T) {
	for frames := 1; frames < most; frames++ {
		w := newWorld(most, frames)
		var want []int
		for k := range frames {
			n := most - 1 - k
			want = append(want, n)
			w.takes(t, n, want...)
			w.get(t, n, api.Page{})
			w.held(t, want...)
		}
		w.takes(t, 0, append(want[1:], 0)...)
	}
}

// P8.1 LOAD: an empty frame comes ahead of one that could be taken: none is written.
func TestEmptyFramesAheadOfOthers(t *testing.T) {
	w := newWorld(most, 4)
	for n := range 4 {
		w.set(t, n, of(n, 0))
		w.loose(t)
	}
	w.get(t, 4, api.Page{})
	w.loose(t, 0)
}

// P8.1 LOAD: where all are USED, the one at the HAND is taken behind a round; then those behind it, which aren't USED any more, in their order, going round.
func TestAllUsed(t *testing.T) {
	w := holding(t, 0, 1, 2)
	w.takes(t, 3, 1, 2, 3)
	w.takes(t, 4, 2, 3, 4)
	w.takes(t, 5, 3, 4, 5)
	// All three are USED again, and the HAND is at the first.
	w.takes(t, 0, 4, 5, 0)
	w.takes(t, 1, 5, 0, 1)
	w.takes(t, 2, 0, 1, 2)
}

// P8.1 LOAD: one frame, which is taken again and again.
func TestOneFrame(t *testing.T) {
	w := newWorld(most, 1)
	for k := range 20 {
		n := k * 5 % most
		w.takes(t, n, n)
	}
}

// P8.1 LOAD: one that is USED isn't any more, and is passed by once; the HAND is behind the one that was taken.
func TestUsedIsPassedBy(t *testing.T) {
	w := holding(t, 0, 1, 2)
	w.takes(t, 3, 3, 1, 2)
	w.takes(t, 4, 3, 4, 2)
	// The HAND is at page 2, which is USED by this Get: it is passed by, as 3 and 4 are, and taken when the HAND comes again.
	w.get(t, 2, api.Page{})
	w.takes(t, 5, 3, 4, 5)
	// The HAND went round to page 3, which isn't USED any more.
	w.takes(t, 0, 0, 4, 5)
	w.get(t, 4, api.Page{})
	// 4 is passed by, and so is 5, which was USED since it came; 0 too; then 4 is taken.
	w.takes(t, 1, 0, 1, 5)
	w.takes(t, 2, 0, 1, 2)
}

// usedBy tells whether a call makes page 1 USED: it is at the HAND, not USED, with one behind it that isn't either.
func usedBy(t *testing.T, call func(w *world)) bool {
	t.Helper()
	w := holding(t, 0, 1, 2)
	w.takes(t, 3, 3, 1, 2)
	call(w)
	w.p.Get(4)
	return slices.Equal(w.p.Held(), []int{1, 3, 4})
}

// P8.1 and P8.2: a page is USED by what LOADs it, Get, Set and Pin, and by nothing else.
func TestWhatUses(t *testing.T) {
	using := map[string]func(w *world){
		"Get": func(w *world) { w.p.Get(1) },
		"Set": func(w *world) { w.p.Set(1, of(1, 0)) },
		"Pin": func(w *world) { w.p.Pin(1); w.p.Unpin(1) },
	}
	for name, call := range using {
		if !usedBy(t, call) {
			t.Errorf("a page isn't USED by %s", name)
		}
	}
	others := map[string]func(w *world){
		"nothing":              func(w *world) {},
		"Unpin":                func(w *world) { w.p.Unpin(1) },
		"Flush":                func(w *world) { w.p.Flush(1) },
		"FlushAll":             func(w *world) { w.p.FlushAll() },
		"Held":                 func(w *world) { w.p.Held() },
		"Dirty":                func(w *world) { w.p.Dirty() },
		"Get of another":       func(w *world) { w.p.Get(2) },
		"Get that fails":       func(w *world) { w.p.Get(-1) },
		"Set of a wrong page":  func(w *world) { w.p.Set(1, of(1, -1)) },
		"Set of no sector":     func(w *world) { w.p.Set(most, of(1, 0)) },
		"a Write of its bytes": func(w *world) { w.d.Write(1, nil) },
	}
	for name, call := range others {
		if usedBy(t, call) {
			t.Errorf("a page is USED by %s", name)
		}
	}
}

// P8.1 LOAD: one that is PINNED is passed by, and is as USED as it was.
func TestPinnedIsPassedBy(t *testing.T) {
	w := holding(t, 0, 1, 2)
	errno(t, "Pin", w.p.Pin(1), api.OK)
	w.takes(t, 3, 3, 1, 2)
	errno(t, "Unpin", w.p.Unpin(1), api.OK)
	// The HAND is at page 1, which is USED: 2 behind it isn't.
	w.takes(t, 4, 3, 1, 4)
	// The HAND is at page 3, USED; so is 4; 1 isn't any more.
	w.takes(t, 5, 3, 5, 4)
}

// P8.1 LOAD: a page that is PINNED stays, however many others come and go; unpinned often enough it can be taken.
func TestPinnedStays(t *testing.T) {
	for frames := 2; frames < most; frames++ {
		for pins := 1; pins <= 3; pins++ {
			w := newWorld(most, frames)
			for range pins {
				errno(t, "Pin", w.p.Pin(0), api.OK)
			}
			w.set(t, 0, of(0, 0))
			for k := range pins {
				for n := 1; n < most; n++ {
					w.get(t, n, api.Page{})
					if !slices.Contains(w.p.Held(), 0) || len(w.d.Loose()) > 0 {
						t.Errorf("a page that is pinned is gone: %v, %v", w.p.Held(), w.d.Loose())
					}
				}
				errno(t, fmt.Sprint("Unpin ", k), w.p.Unpin(0), api.OK)
			}
			for n := 1; n < most; n++ {
				w.get(t, n, api.Page{})
			}
			if slices.Contains(w.p.Held(), 0) {
				t.Errorf("a page that isn't pinned any more stays: %v", w.p.Held())
			}
			w.sector(t, 0, form(of(0, 0)))
		}
	}
}

// turned is a world whose frames have been taken so often, one behind the other, so that the HAND is anywhere; which pages are in the frames, in their order, is told beside.
func turned(frames, often int) (*world, []int) {
	w := newWorld(most, frames)
	var row []int
	for n := range frames {
		w.p.Get(n)
		row = append(row, n)
	}
	for k := range often {
		n := (frames + k) % most
		w.p.Get(n)
		row[k%frames] = n
	}
	return w, row
}

// P8.1 LOAD: all but one are PINNED: that one is taken, wherever the HAND is, USED or not, in two rounds; the HAND is behind it.
func TestAllButOnePinned(t *testing.T) {
	for frames := 1; frames < most; frames++ {
		for often := range 2*frames + 1 {
			for free := range frames {
				w, row := turned(frames, often)
				w.held(t, row...)
				for at, n := range row {
					if at != free {
						errno(t, "Pin", w.p.Pin(n), api.OK)
					}
				}
				for n := range most {
					if !slices.Contains(row, n) {
						row[free] = n
						w.takes(t, n, row...)
					}
				}
				for at, n := range row {
					if at != free {
						errno(t, "Unpin", w.p.Unpin(n), api.OK)
					}
				}
				// All are USED, so the next one is that at the HAND.
				for n := range most {
					if !slices.Contains(row, n) {
						row[(free+1)%frames] = n
						w.takes(t, n, row...)
						break
					}
				}
			}
		}
	}
}

// P8.1 LOAD: all are PINNED: ErrPool behind two rounds, and all is as it was: what is held, DIRTY and USED, and where the HAND is.
func TestAllPinned(t *testing.T) {
	for frames := 1; frames < most; frames++ {
		for often := range 2*frames + 1 {
			made := func() *world {
				w, row := turned(frames, often)
				for _, n := range row {
					w.p.Pin(n)
				}
				w.p.Set(row[0], of(row[0], 0))
				return w
			}
			w := made()
			held := w.p.Held()
			for n := range most {
				if slices.Contains(held, n) {
					continue
				}
				missing(t, made, n, api.ErrPool)
				unpinned := func() *world {
					w := made()
					for _, n := range held {
						w.p.Unpin(n)
					}
					return w
				}
				plain, behind := unpinned(), made()
				behind.p.Get(n)
				for _, n := range held {
					behind.p.Unpin(n)
				}
				if got, want := behind.probe(), plain.probe(); got != want {
					t.Errorf("a LOAD that finds no frame changed %s\ninto\n%s", want, got)
				}
			}
		}
	}
}

// P8.1 LOAD: behind one that found no frame all are USED still.
func TestUsedBehindAllPinned(t *testing.T) {
	w := holding(t, 0, 1, 2)
	for n := range 3 {
		errno(t, "Pin", w.p.Pin(n), api.OK)
	}
	w.getFails(t, 3, api.ErrPool)
	w.held(t, 0, 1, 2)
	for n := range 3 {
		errno(t, "Unpin", w.p.Unpin(n), api.OK)
	}
	w.get(t, 0, api.Page{})
	w.takes(t, 3, 3, 1, 2)
}

// P8.1 LOAD: pages in frames can be had where all are PINNED.
func TestHeldPagesWhereAllPinned(t *testing.T) {
	w := holding(t, 0, 1)
	errno(t, "Pin", w.p.Pin(0), api.OK)
	errno(t, "Pin", w.p.Pin(1), api.OK)
	w.get(t, 0, api.Page{})
	w.set(t, 1, of(1, 0))
	w.get(t, 1, of(1, 0))
	errno(t, "Pin", w.p.Pin(1), api.OK)
	errno(t, "Flush", w.p.Flush(1), api.OK)
	w.sector(t, 1, form(of(1, 0)))
}

// P8.1 LOAD: the frame that is taken is FLUSHED, no other one is; one that isn't DIRTY isn't written.
func TestTakenIsFlushed(t *testing.T) {
	w := holding(t, 0, 1, 2)
	w.set(t, 1, of(1, 0))
	w.set(t, 2, of(2, 0))
	w.takes(t, 3, 3, 1, 2)
	w.loose(t)
	w.takes(t, 4, 3, 4, 2)
	w.loose(t, 1)
	w.dirty(t, 2)
	w.sector(t, 1, form(of(1, 0)))
	w.takes(t, 5, 3, 4, 5)
	w.loose(t, 1, 2)
	w.dirty(t)
	w.sector(t, 2, form(of(2, 0)))
	w.d.Sync()
	w.get(t, 1, of(1, 0))
	w.get(t, 2, of(2, 0))
	w.get(t, 0, api.Page{})
	w.get(t, 5, api.Page{})
	w.loose(t)
}

// P8.1 LOAD: what comes into a frame that was DIRTY is not DIRTY, and has nothing of the page ahead of it.
func TestTakenIsClean(t *testing.T) {
	w := newWorld(3, 1)
	w.d.Write(1, form(of(1, 0)))
	w.d.Sync()
	w.set(t, 0, of(0, 0))
	w.get(t, 1, of(1, 0))
	w.dirty(t)
	w.get(t, 2, api.Page{})
	w.dirty(t)
	w.loose(t, 0)
	errno(t, "Pin", w.p.Pin(0), api.OK)
	w.dirty(t)
	w.get(t, 0, of(0, 0))
}

// flushes are the ways by which page 0, DIRTY in the only frame, is FLUSHED.
func flushes() map[string]func(w *world) api.Errno {
	return map[string]func(w *world) api.Errno{
		"Flush":    func(w *world) api.Errno { return w.p.Flush(0) },
		"FlushAll": func(w *world) api.Errno { return w.p.FlushAll() },
		"Get":      func(w *world) api.Errno { _, e := w.p.Get(1); return e },
		"Set":      func(w *world) api.Errno { return w.p.Set(1, of(1, 0)) },
		"Pin":      func(w *world) api.Errno { return w.p.Pin(1) },
	}
}

// P8.1 FLUSH and P8.3: the log is Forced where the page's LSN is above what is Durable, and only there; then the page is on the drive, loose.
func TestFlushAndTheLog(t *testing.T) {
	for name, flush := range flushes() {
		for last := range 5 {
			for forced := range last + 1 {
				for _, lsn := range []int{0, 1, 2, 3, 4, 5, 6, maxNum - 1, maxNum} {
					w := newWorld(2, 1)
					for k := range last {
						w.commit(t)
						if k+1 == forced {
							w.l.Force()
						}
					}
					w.durable(t, forced)
					safe := w.x.Safe()
					w.set(t, 0, of(0, lsn))
					w.durable(t, forced)
					w.loose(t)
					errno(t, name, flush(w), api.OK)
					want := forced
					if lsn > forced {
						want, safe = last, len(w.x.Bytes())
					}
					w.durable(t, want)
					if w.x.Safe() != safe {
						t.Errorf("%s with LSN %d of %d, %d durable: %d bytes are safe, not %d", name, lsn, last, forced, w.x.Safe(), safe)
					}
					w.sector(t, 0, form(of(0, lsn)))
					w.loose(t, 0)
					if slices.Contains(w.p.Dirty(), 0) {
						t.Errorf("%s leaves the page dirty", name)
					}
					w.d.Crash(0)
					w.sector(t, 0, nil)
				}
			}
		}
	}
}

// P8.1 FLUSH: what is Durable is asked of the log each time: behind a Mark, a Force by others, a crash.
func TestFlushAsksTheLog(t *testing.T) {
	w := newWorld(2, 1)
	for range 3 {
		w.commit(t)
	}
	errno(t, "Mark", w.l.Mark(), api.OK)
	four := w.commit(t)
	w.set(t, 0, of(0, 3))
	errno(t, "Flush", w.p.Flush(0), api.OK)
	w.durable(t, 3)
	w.set(t, 0, of(0, four))
	errno(t, "Flush", w.p.Flush(0), api.OK)
	w.durable(t, four)
	five := w.commit(t)
	w.l.Force()
	w.commit(t)
	w.set(t, 0, of(0, five))
	errno(t, "Flush", w.p.Flush(0), api.OK)
	w.durable(t, five)
	// The tape has nothing any more: any LSN but 0 is above what is Durable.
	w.x.Cut(0)
	w.set(t, 0, of(0, 0))
	w.x.Append([]byte("abc"))
	errno(t, "Flush", w.p.Flush(0), api.OK)
	if w.x.Safe() != 0 {
		t.Error("a page with LSN 0 forces the log")
	}
	w.set(t, 0, of(0, 1))
	errno(t, "Flush", w.p.Flush(0), api.OK)
	if w.x.Safe() != 3 {
		t.Error("a page with LSN 1 doesn't force the log")
	}
}

// P8.2 Flush: a page that isn't DIRTY stays: nothing is Written, nothing Forced, whatever the sector and the log have now.
func TestFlushOfWhatIsNotDirty(t *testing.T) {
	flushed := func() *world {
		w := newWorld(3, 2)
		w.set(t, 0, of(0, w.commit(t)))
		w.get(t, 1, api.Page{})
		errno(t, "Flush", w.p.Flush(0), api.OK)
		w.d.Sync()
		w.d.Write(0, []byte("x"))
		w.d.Sync()
		w.x.Cut(0)
		w.x.Append([]byte("abc"))
		return w
	}
	for _, n := range []int{0, 1} {
		w := flushed()
		before := w.seen()
		errno(t, "Flush", w.p.Flush(n), api.OK)
		errno(t, "FlushAll", w.p.FlushAll(), api.OK)
		if after := w.seen(); after != before {
			t.Errorf("Flush of %d, that isn't dirty, made %s of %s", n, after, before)
		}
		unchanged(t, "Flush of what isn't dirty", flushed, func(w *world) { w.p.Flush(n) })
		unchanged(t, "FlushAll of none", flushed, func(w *world) { w.p.FlushAll() })
	}
}

// P8.2 Flush: that page alone; it stays in its frame; ErrPool for one that isn't in a frame: nothing is LOADED or written.
func TestFlush(t *testing.T) {
	made := func() *world {
		w := newWorld(most, 3)
		for _, n := range []int{4, 0, 2} {
			w.set(t, n, of(n, 0))
		}
		return w
	}
	for _, n := range append(outside(most), 1, 3, 5) {
		errno(t, fmt.Sprint("Flush of ", n), made().p.Flush(n), api.ErrPool)
		unchanged(t, fmt.Sprint("Flush of ", n), made, func(w *world) { w.p.Flush(n) })
	}
	w := made()
	errno(t, "Flush", w.p.Flush(2), api.OK)
	w.held(t, 0, 2, 4)
	w.dirty(t, 0, 4)
	w.loose(t, 2)
	w.sector(t, 2, form(of(2, 0)))
	w.get(t, 2, of(2, 0))
	errno(t, "Flush", w.p.Flush(4), api.OK)
	w.dirty(t, 0)
	w.loose(t, 2, 4)
	w.set(t, 2, of(7, 0))
	w.dirty(t, 0, 2)
	w.sector(t, 2, form(of(2, 0)))
	errno(t, "Flush", w.p.Flush(2), api.OK)
	w.sector(t, 2, form(of(7, 0)))
	empty := newWorld(most, most)
	for n := range most {
		errno(t, "Flush", empty.p.Flush(n), api.ErrPool)
	}
	empty.held(t)
}

// P8.2 FlushAll: of none, of each set of pages that are DIRTY, of all; PINNED ones too.
func TestFlushAll(t *testing.T) {
	for frames := 1; frames <= most; frames++ {
		for set := range 1 << frames {
			w := newWorld(most, frames)
			var dirty []int
			for n := frames - 1; n >= 0; n-- {
				w.get(t, n, api.Page{})
			}
			for n := range frames {
				if set>>n&1 == 1 {
					dirty = append(dirty, n)
					w.set(t, n, of(n, 0))
				}
				if n%2 == 0 {
					errno(t, "Pin", w.p.Pin(n), api.OK)
				}
			}
			held := w.p.Held()
			w.dirty(t, dirty...)
			errno(t, "FlushAll", w.p.FlushAll(), api.OK)
			w.held(t, held...)
			w.dirty(t)
			w.loose(t, dirty...)
			for n := range frames {
				want := []byte(nil)
				if set>>n&1 == 1 {
					want = form(of(n, 0))
				}
				w.sector(t, n, want)
			}
			w.d.Sync()
			errno(t, "FlushAll", w.p.FlushAll(), api.OK)
			w.loose(t)
		}
	}
	none := newWorld(0, 1)
	errno(t, "FlushAll", none.p.FlushAll(), api.OK)
	none.held(t)
}

// P8.2 FlushAll and P8.3: the log is Forced if one of the pages that are DIRTY asks for it, wherever its frame is.
func TestFlushAllAndTheLog(t *testing.T) {
	for at := range most {
		for _, lsn := range []int{1, 2, 3, 9} {
			w := newWorld(most, most)
			w.commit(t)
			w.l.Force()
			w.commit(t)
			w.commit(t)
			for n := range most {
				w.set(t, n, of(n, n%2))
			}
			w.set(t, at, of(at, lsn))
			errno(t, "FlushAll", w.p.FlushAll(), api.OK)
			want := 1
			if lsn > 1 {
				want = 3
			}
			w.durable(t, want)
			w.loose(t, 0, 1, 2, 3, 4, 5)
			w.sector(t, at, form(of(at, lsn)))
		}
	}
}
