package store_test

import (
	"math"
	"testing"

	"cloakroom/api"
)

// some are commits on many pages, one of them without Puts.
func some() []api.Batch {
	return []api.Batch{
		commit(1, put(0, 0, 1), put(0, 1, 2), put(3, 2, 3)),
		commit(2, put(1, 1, 4)),
		commit(3),
		commit(4, put(0, 1, 5), put(2, 0, 6), put(3, 3, 7), put(5, 0, 8)),
		commit(5, put(4, 0, complex(otherNaN, math.Inf(-1)))),
		commit(6, put(0, 3, 9), put(5, 0, 10)),
	}
}

// P9.3: behind each number of commits, with every number of frames: all is on the drive, nothing is loose, the tape has a MARK alone.
func TestCheckpoint(t *testing.T) {
	for frames := 1; frames <= most; frames++ {
		for many := range len(some()) + 1 {
			w := newWorld(t, most, frames)
			all := some()[:many]
			for _, b := range all {
				w.commit(t, b)
			}
			errno(t, "Checkpoint", w.s.Checkpoint(), api.OK)
			w.tape(t, 1, mark(many))
			w.log(t, many, many)
			w.loose(t)
			want := after(most, all...)
			for n, x := range want {
				if x == (api.Page{}) {
					w.empty(t, n)
				} else {
					w.sector(t, n, x)
				}
			}
			w.has(t, want...)
			w.loose(t)
			w.d.Crash(0)
			w.x.Crash(0)
			again := opened(t, w.x, w.d, most)
			again.has(t, want...)
			again.log(t, many, many)
			again.commit(t, commit(many+1, put(1, 3, 11)))
		}
	}
}

// P9.3: the Map, Last and what comes next are as if there had been none.
func TestAsIfThereHadBeenNone(t *testing.T) {
	for frames := 1; frames <= most; frames++ {
		for at := range 1 << len(some()) {
			with, without := newWorld(t, most, frames), newWorld(t, most, frames)
			for k, b := range some() {
				with.commit(t, b)
				without.commit(t, b)
				if at>>k&1 == 1 {
					errno(t, "Checkpoint", with.s.Checkpoint(), api.OK)
				}
				if with.s.Last() != without.s.Last() {
					t.Errorf("Last is %d with, %d without", with.s.Last(), without.s.Last())
				}
			}
			with.has(t, after(most, some()...)...)
			with = opened(t, with.x, with.d, frames)
			with.has(t, after(most, some()...)...)
			with.commit(t, commit(7))
		}
	}
}

// P9.3: two Checkpoints, with nothing between: the second one leaves a MARK again.
func TestCheckpointAgain(t *testing.T) {
	w := newWorld(t, most, 2)
	for lsn := range 3 {
		for range 3 {
			errno(t, "Checkpoint", w.s.Checkpoint(), api.OK)
			w.tape(t, 1, mark(lsn))
			w.log(t, lsn, lsn)
			w.loose(t)
		}
		w.commit(t, commit(lsn+1, put(lsn, 0, 1)))
		w.log(t, lsn+1, lsn, commit(lsn+1, put(lsn, 0, 1)))
	}
	w.tape(t, 1, mark(2), commit(3, put(2, 0, 1)))
}

// P9.3: what is loose on the drive, and in no frame any more, is stable behind it, too.
func TestCheckpointOfWhatIsLoose(t *testing.T) {
	w := newWorld(t, most, 1)
	all := some()
	for _, b := range all {
		w.commit(t, b)
	}
	w.page(t, 1, after(most, all...)[1])
	w.loose(t, 0, 1, 2, 3, 4, 5)
	errno(t, "Checkpoint", w.s.Checkpoint(), api.OK)
	w.loose(t)
	w.d.Crash(0)
	opened(t, w.x, w.d, 3).has(t, after(most, all...)...)
}

// P9.3: where the tape has no room for the MARK: the Log's error; the Log is Forced, the pages are on the drive and stable, and the commits stay.
func TestCheckpointWithoutRoom(t *testing.T) {
	all := some()
	for frames := 1; frames <= most; frames++ {
		for _, left := range []int{-1000, -1, 0, 1, markSize - 1} {
			w := newWorld(t, most, frames)
			for _, b := range all {
				w.commit(t, b)
			}
			w.x.Limit(len(row(all...)) + left)
			errno(t, "Checkpoint", w.s.Checkpoint(), api.ErrFull)
			w.tape(t, len(all), all...)
			w.log(t, 6, 6, all...)
			w.loose(t)
			want := after(most, all...)
			for n, x := range want {
				w.sector(t, n, x)
			}
			w.has(t, want...)
			opened(t, w.x, w.d, frames).has(t, want...)
			w.x.Limit(len(row(all...)) + markSize)
			errno(t, "Checkpoint", w.s.Checkpoint(), api.OK)
			w.tape(t, 1, mark(6))
			w.has(t, want...)
			w.commit(t, commit(7))
		}
	}
}

// P9.3: the Log is Forced also where no page asks for it.
func TestCheckpointForces(t *testing.T) {
	w := newWorld(t, 1, 1)
	w.commit(t, commit(1))
	w.x.Limit(0)
	w.log(t, 1, 0, commit(1))
	errno(t, "Checkpoint", w.s.Checkpoint(), api.ErrFull)
	w.log(t, 1, 1, commit(1))
	w.tape(t, 1, commit(1))
}

// P9.3: a tape that is full has room again behind one, if there is room for the MARK.
func TestCheckpointMakesRoom(t *testing.T) {
	w := newWorld(t, most, 3)
	b := func(lsn int) api.Batch { return commit(lsn, put(lsn%most, 0, complex(float64(lsn), 0))) }
	// Room for three commits between two MARKs.
	w.x.Limit(3*len(row(b(1))) + 2*markSize)
	var all []api.Batch
	for lsn := 1; lsn <= 30; lsn++ {
		if lsn%3 == 1 {
			errno(t, "Checkpoint", w.s.Checkpoint(), api.OK)
		}
		w.commit(t, b(lsn))
		all = append(all, b(lsn))
		w.has(t, after(most, all...)...)
		if lsn%3 == 0 {
			w.fails(t, b(lsn+1), api.ErrFull)
		}
	}
}
