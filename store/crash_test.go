package store_test

import (
	"math"
	"slices"
	"testing"

	"cloakroom/api"
	"cloakroom/sector"
	"cloakroom/tape"
	"cloakroom/wal"
)

// moment is a tape and a drive as they were at some time, with all that was committed, how much of it was Durable, and how much is no more on the log.
type moment struct {
	bytes   []byte
	safe    int
	sectors [][]byte
	stable  [][]byte
	loose   []int
	all     []api.Batch
	durable int
	marked  int
}

// film is a world of which each moment is kept.
type film struct {
	*world
	all     []api.Batch
	marked  int
	stable  [][]byte
	moments []moment
}

func newFilm(t *testing.T, sectors, frames int) *film {
	t.Helper()
	f := &film{world: newWorld(t, sectors, frames), stable: make([][]byte, sectors)}
	f.keep()
	return f
}

// keep takes down the moment. A sector that isn't loose tells its stable bytes: no call of a store writes behind its Sync of the drive.
func (f *film) keep() {
	m := moment{bytes: f.x.Bytes(), safe: f.x.Safe(), loose: f.d.Loose(), all: slices.Clone(f.all), durable: f.s.Durable(), marked: f.marked}
	for n := range f.d.Len() {
		b, _ := f.d.Read(n)
		m.sectors = append(m.sectors, b)
		if !slices.Contains(m.loose, n) {
			f.stable[n] = b
		}
	}
	m.stable = slices.Clone(f.stable)
	f.moments = append(f.moments, m)
}

func (f *film) add(t *testing.T, puts ...api.Put) {
	t.Helper()
	b := commit(len(f.all)+1, puts...)
	f.commit(t, b)
	f.all = append(f.all, b)
	f.keep()
}

func (f *film) sync() {
	f.s.Sync()
	f.keep()
}

func (f *film) checkpoint(t *testing.T) {
	t.Helper()
	errno(t, "Checkpoint", f.s.Checkpoint(), api.OK)
	f.marked = len(f.all)
	f.keep()
}

func (f *film) look(pages ...int) {
	for _, n := range pages {
		f.s.Page(n)
		f.keep()
	}
}

// again is a tape and a drive as they were at the moment.
func (m moment) again() (*tape.Tape, *sector.Drive) {
	x, d := tape.New(mostTape), sector.New(len(m.sectors))
	x.Append(m.bytes[:m.safe])
	x.Sync()
	x.Append(m.bytes[m.safe:])
	for n, b := range m.stable {
		d.Write(n, b)
	}
	d.Sync()
	for _, n := range m.loose {
		d.Write(n, m.sectors[n])
	}
	return x, d
}

// kept is how many commits there are behind a crash of the tape that keeps so many bytes: all that were on it whole, and those of the MARK ahead.
func (m moment) kept(keep int) int {
	left := min(max(keep, 0), len(m.bytes)-m.safe)
	found, _ := wal.Scan(m.bytes[:m.safe+left])
	if len(found) == 0 {
		return 0
	}
	return found[len(found)-1].LSN
}

// subsets are the masks of all sets of these sectors.
func subsets(sectors []int) []int {
	masks := []int{0}
	for _, n := range sectors {
		for _, mask := range slices.Clone(masks) {
			masks = append(masks, mask|1<<n)
		}
	}
	return masks
}

// fall crashes both at the moment, keeping so much of them, and asks for the promise behind an Open.
func (m moment) fall(t *testing.T, keep, mask, frames int) *world {
	t.Helper()
	x, d := m.again()
	x.Crash(keep)
	d.Crash(mask)
	w := opened(t, x, d, frames)
	last := m.kept(keep)
	if last < m.durable || last > len(m.all) {
		t.Fatalf("%d are there, of %d, where %d was durable", last, len(m.all), m.durable)
	}
	w.log(t, last, last, m.all[min(m.marked, last):last]...)
	w.has(t, after(len(m.sectors), m.all[:last]...)...)
	if t.Failed() {
		t.Fatalf("a crash that keeps %d bytes and the sectors %b, %d frames", keep, mask, frames)
	}
	return w
}

// cruel is every crash of a moment that can be told from others: every number of bytes, every set of loose sectors; behind some of them another crash, and an Open with other frames.
func (m moment) cruel(t *testing.T, frames int) {
	t.Helper()
	for keep := -1; keep <= len(m.bytes)-m.safe+1; keep++ {
		for _, mask := range subsets(m.loose) {
			w := m.fall(t, keep, mask, frames)
			if (keep+mask)%5 != 0 {
				continue
			}
			want := after(len(m.sectors), m.all[:w.s.Last()]...)
			for k, more := range subsets(w.d.Loose()) {
				w.d.Crash(more)
				w.x.Crash(k)
				w = opened(t, w.x, w.d, 1+(frames+k)%most)
				w.has(t, want...)
			}
		}
	}
}

// films are rows of commits, Syncs, Checkpoints and looks, of stores with every number of frames.
func films(t *testing.T) []*film {
	t.Helper()
	var list []*film
	for frames := 1; frames <= most; frames++ {
		f := newFilm(t, 4, frames)
		f.add(t, put(0, 0, 1), put(0, 1, 2))
		f.sync()
		f.add(t, put(1, 0, 3), put(2, 3, 4))
		f.add(t, put(0, 1, 5))
		f.look(3, 1)
		f.add(t, put(0, 2, 6), put(3, 0, 7), put(3, 1, 8))
		f.checkpoint(t)
		f.add(t, put(2, 3, 9))
		f.add(t, put(1, 0, 10), put(2, 0, 11), put(2, 2, 12))
		f.sync()
		f.add(t)
		f.add(t, put(0, 0, 13), put(1, 1, 14))
		list = append(list, f)

		f = newFilm(t, 3, frames)
		f.checkpoint(t)
		f.add(t, put(2, 0, 1), put(2, 1, 1), put(2, 2, 1), put(2, 3, 1))
		f.add(t, put(2, 0, 2), put(2, 1, 2), put(2, 2, 2), put(2, 3, 2))
		f.look(0, 1)
		f.add(t, put(0, 3, 3), put(2, 1, 3))
		f.checkpoint(t)
		f.checkpoint(t)
		f.look(2, 0)
		f.add(t, put(1, 1, 4), put(2, 1, 4))
		f.look(0)
		f.add(t, put(0, 3, complex(otherNaN, math.Inf(1))))
		list = append(list, f)
	}
	return list
}

// P9.4: behind a crash at any moment that keeps any number of bytes and any set of loose sectors, and an Open, the Map is that of the commits from the first one on, with all that were Durable, each whole or not there.
func TestCrashes(t *testing.T) {
	for k, f := range films(t) {
		for at, m := range f.moments {
			m.cruel(t, 1+(k+at)%most)
		}
	}
}

// P9.4: numbers that keep all, or nothing, at their edges.
func TestCrashesAtEdges(t *testing.T) {
	for _, f := range films(t) {
		for _, m := range f.moments {
			for _, keep := range []int{math.MinInt, -1, 0, mostTape, math.MaxInt} {
				for _, mask := range []int{0, 1, 63, 64, -64, math.MaxInt} {
					m.fall(t, keep, mask, 2)
				}
			}
		}
	}
}

// P9.4: an Open once more, with other numbers of frames, has the same Map; so has one behind a crash amid it, whatever is kept.
func TestOpensBehindACrash(t *testing.T) {
	for k, f := range films(t) {
		m := f.moments[len(f.moments)-1]
		for frames := -1; frames <= most+1; frames++ {
			for _, mask := range subsets(m.loose) {
				w := m.fall(t, 7*k, mask, frames)
				want := after(len(m.sectors), m.all[:w.s.Last()]...)
				for then := most + 1; then >= -1; then-- {
					last := w.s.Last()
					w = opened(t, w.x, w.d, then)
					w.has(t, want...)
					if w.s.Last() != last || w.s.Durable() != last {
						t.Errorf("Last is %d, Durable %d, not %d", w.s.Last(), w.s.Durable(), last)
					}
				}
			}
		}
	}
}

// P9.4: what is committed behind the crash goes on where the log ends; what was lost is gone for ever.
func TestCommitsBehindACrash(t *testing.T) {
	for _, f := range films(t) {
		for at, m := range f.moments {
			for keep := 0; keep <= len(m.bytes)-m.safe; keep += 13 {
				for _, mask := range subsets(m.loose) {
					w := m.fall(t, keep, mask, 1+at%3)
					all := slices.Clone(m.all[:w.s.Last()])
					for k := range 3 {
						b := commit(len(all)+1, put(0, k, 1000i), put(1, 3-k, 1000))
						w.commit(t, b)
						all = append(all, b)
					}
					w.s.Sync()
					w.x.Crash(0)
					w.d.Crash(mask)
					w = opened(t, w.x, w.d, 1+keep%most)
					w.has(t, after(len(m.sectors), all...)...)
					if w.s.Last() != len(all) {
						t.Fatalf("Last is %d, not %d", w.s.Last(), len(all))
					}
				}
			}
		}
	}
}

// P9.4: a page is on the drive only with what is Durable: else a crash that keeps the drive and not the tape would show half a commit.
func TestDriveBehindTheLog(t *testing.T) {
	for frames := 1; frames < most; frames++ {
		w := newWorld(t, most, frames)
		var all []api.Batch
		for lsn := 1; lsn <= 30; lsn++ {
			b := commit(lsn, put(0, lsn%objs, 1i), put(lsn%5+1, 0, complex(float64(lsn), 0)))
			w.commit(t, b)
			all = append(all, b)
			m := moment{bytes: w.x.Bytes(), safe: w.x.Safe(), stable: make([][]byte, most), loose: w.d.Loose(), all: all, durable: w.s.Durable()}
			for n := range most {
				held, _ := w.d.Read(n)
				m.sectors = append(m.sectors, held)
			}
			m.fall(t, 0, -1, frames)
			m.fall(t, 0, 0, frames)
		}
	}
}

// P9.4: a crash of the tape alone, or of the drive alone.
func TestCrashOfOne(t *testing.T) {
	for _, f := range films(t) {
		for _, m := range f.moments {
			for keep := 0; keep <= len(m.bytes)-m.safe; keep++ {
				x, d := m.again()
				x.Crash(keep)
				w := opened(t, x, d, 2)
				w.has(t, after(len(m.sectors), m.all[:m.kept(keep)]...)...)
			}
			for _, mask := range subsets(m.loose) {
				x, d := m.again()
				d.Crash(mask)
				w := opened(t, x, d, 2)
				w.has(t, after(len(m.sectors), m.all...)...)
				w.log(t, len(m.all), w.s.Durable(), m.all[m.marked:]...)
			}
		}
	}
}
