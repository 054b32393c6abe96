package pool_test

import (
	"bytes"
	"fmt"
	"math"
	"slices"
	"testing"

	"cloakroom/api"
	"cloakroom/crc"
	"cloakroom/pool"
	"cloakroom/sector"
	"cloakroom/tape"
	"cloakroom/wal"
)

const (
	most     = 6
	mostPins = 1000
	maxNum   = 16777215
	room     = 20000
)

// otherNaN is not a number, by other bits than those of its one form.
var otherNaN = math.Float64frombits(0xFFF8000000000123)

// world is a pool, with the drive, the log and the tape that it stands in front of.
type world struct {
	d *sector.Drive
	x *tape.Tape
	l *wal.Log
	p *pool.Pool
}

func newWorld(sectors, frames int) *world {
	w := &world{d: sector.New(sectors), x: tape.New(room)}
	w.l = wal.Open(w.x)
	w.p = pool.New(w.d, w.l, frames)
	return w
}

// holding is a world of six sectors in whose frames these pages are, one a frame, all USED, the HAND at the first.
func holding(t *testing.T, pages ...int) *world {
	t.Helper()
	w := newWorld(most, len(pages))
	for _, n := range pages {
		w.get(t, n, api.Page{})
	}
	w.held(t, pages...)
	return w
}

// of is a page whose objects tell its number and its LSN.
func of(n, lsn int) api.Page {
	return api.Page{LSN: lsn, Objs: [4]complex128{complex(float64(n), 1), complex(float64(lsn), -1), complex(math.Inf(1), -0.5), 3i}}
}

func part(f float64) []byte {
	bits := math.Float64bits(f)
	if f != f {
		bits = 0x7FF8000000000001
	}
	var l []byte
	for k := 56; k >= 0; k -= 8 {
		l = append(l, byte(bits>>k))
	}
	return l
}

// form is a page's bytes, as the tests make them.
func form(x api.Page) []byte {
	l := []byte{byte(x.LSN >> 16), byte(x.LSN >> 8), byte(x.LSN)}
	for _, c := range x.Objs {
		l = slices.Concat(l, part(real(c)), part(imag(c)))
	}
	return crc.Seal(l)
}

// text tells a page, also one that isn't RIGHT, with the bits of all parts.
func text(x api.Page) string {
	return fmt.Sprintf("%d:%x", x.LSN, form(x))
}

// outside holds what is no sector of a drive of that size.
func outside(size int) []int {
	return []int{math.MinInt, math.MinInt + 1, -1 << 32, -size - 1, -1, size, size + 1, 7, 1 << 32, math.MaxInt}
}

// others holds bytes that are no page's.
func others() [][]byte {
	whole := form(of(1, 2))
	turned := bytes.Clone(whole)
	turned[20] ^= 4
	return [][]byte{{0}, []byte("x"), whole[:68], append(bytes.Clone(whole), 0), turned, make([]byte, 69), make([]byte, 100), crc.Seal(nil), crc.Seal(make([]byte, 66)), crc.Seal(make([]byte, 68))}
}

// wrongPages holds pages that aren't RIGHT.
func wrongPages() []api.Page {
	return []api.Page{of(1, math.MinInt), of(1, -1), of(1, maxNum+1), of(1, 1<<32), of(1, math.MaxInt)}
}

// commit is one more commit on the log.
func (w *world) commit(t *testing.T) int {
	t.Helper()
	lsn, e := w.l.Append(api.Batch{Epoch: 1, Txn: 1})
	if e != api.OK {
		t.Fatal(e)
	}
	return lsn
}

// get asks for a page that can be had.
func (w *world) get(t *testing.T, n int, want api.Page) {
	t.Helper()
	if x, e := w.p.Get(n); e != api.OK || text(x) != text(want) {
		t.Errorf("Get of %d: %v, %d, not %v", n, x, e, want)
	}
}

// getFails asks for one that can't.
func (w *world) getFails(t *testing.T, n int, want api.Errno) {
	t.Helper()
	if x, e := w.p.Get(n); e != want || x != (api.Page{}) {
		t.Errorf("Get of %d: %v, %d, not %d and a zero page", n, x, e, want)
	}
}

// errno asks for what a call answered.
func errno(t *testing.T, call string, got, want api.Errno) {
	t.Helper()
	if got != want {
		t.Errorf("%s: %d, not %d", call, got, want)
	}
}

func (w *world) set(t *testing.T, n int, x api.Page) {
	t.Helper()
	errno(t, fmt.Sprintf("Set of %d to %v", n, x), w.p.Set(n, x), api.OK)
}

func (w *world) held(t *testing.T, want ...int) {
	t.Helper()
	want = slices.Sorted(slices.Values(want))
	if list := w.p.Held(); !slices.Equal(list, want) {
		t.Errorf("Held are %v, not %v", list, want)
	}
}

func (w *world) dirty(t *testing.T, want ...int) {
	t.Helper()
	if list := w.p.Dirty(); !slices.Equal(list, want) {
		t.Errorf("Dirty are %v, not %v", list, want)
	}
}

func (w *world) loose(t *testing.T, want ...int) {
	t.Helper()
	if list := w.d.Loose(); !slices.Equal(list, want) {
		t.Errorf("Loose are %v, not %v", list, want)
	}
}

// sector asks for the bytes of a sector.
func (w *world) sector(t *testing.T, n int, want []byte) {
	t.Helper()
	if b, e := w.d.Read(n); e != api.OK || !bytes.Equal(b, want) {
		t.Errorf("sector %d has %x, %d, not %x", n, b, e, want)
	}
}

func (w *world) durable(t *testing.T, want int) {
	t.Helper()
	if n := w.l.Durable(); n != want {
		t.Errorf("Durable is %d, not %d", n, want)
	}
}

// seen is all that can be told without changing anything.
func (w *world) seen() string {
	told := fmt.Sprint(w.p.Held(), w.p.Dirty(), w.d.Loose(), w.l.Last(), w.l.Durable(), w.x.Safe())
	for n := range w.d.Len() {
		b, e := w.d.Read(n)
		told += fmt.Sprintf(" %x %d", b, e)
	}
	return told
}

// probe goes on with calls that tell what else a pool keeps: which frame is where, where the HAND is, what is USED, how often each is PINNED.
func (w *world) probe() string {
	told := w.seen()
	look := func(pages ...int) {
		for _, n := range pages {
			x, e := w.p.Get(n)
			told += fmt.Sprint("\n", n, " ", text(x), e, w.seen())
		}
	}
	look(0, 1, 2, 3, 4, 5)
	for n := range most {
		pins := 0
		for pins <= mostPins && w.p.Unpin(n) == api.OK {
			pins++
		}
		told += fmt.Sprint("\npins ", n, pins)
	}
	for n := range most {
		look(n, n, (n+3)%most, (n+1)%most)
	}
	return told
}

// unchanged asks that a call, made in a world that is made twice, leaves it as the other one is without it.
func unchanged(t *testing.T, name string, made func() *world, call func(w *world)) {
	t.Helper()
	with, without := made(), made()
	call(with)
	if got, want := with.probe(), without.probe(); got != want {
		t.Errorf("%s changed something: %s\nnot\n%s", name, got, want)
	}
}

// The section Errors and the limits.
func TestNumbers(t *testing.T) {
	if api.OK != 0 || api.ErrPool != 81 || api.ErrPage != 41 || api.ErrSector != 51 || api.MaxPages != most || api.MaxNum != maxNum {
		t.Error(api.OK, api.ErrPool, api.ErrPage, api.ErrSector, api.MaxPages, api.MaxNum)
	}
}

// The chapter's example: one frame, two pages set one behind the other: the first one is on the drive.
func TestExample(t *testing.T) {
	w := newWorld(2, 1)
	w.set(t, 0, of(0, 0))
	w.sector(t, 0, nil)
	w.set(t, 1, of(1, 0))
	w.sector(t, 0, form(of(0, 0)))
	w.sector(t, 1, nil)
	w.loose(t, 0)
	w.held(t, 1)
	w.dirty(t, 1)
}

// P8.1 New: so many frames, at least one and at most 6: as many pages are held as there are frames.
func TestNew(t *testing.T) {
	sizes := []struct{ frames, want int }{
		{math.MinInt, 1}, {math.MinInt + 1, 1}, {-6, 1}, {-1, 1}, {0, 1}, {1, 1}, {2, 2}, {3, 3}, {4, 4},
		{5, 5}, {6, 6}, {7, 6}, {1 << 32, 6}, {1<<32 + 1, 6}, {math.MaxInt, 6},
	}
	for _, size := range sizes {
		w := newWorld(most, size.frames)
		w.held(t)
		w.dirty(t)
		w.loose(t)
		for n := range most {
			w.set(t, n, of(n, 0))
			if list := w.p.Held(); len(list) != min(n+1, size.want) || len(w.p.Dirty()) != len(list) {
				t.Errorf("New of %d holds %v behind %d pages, %v dirty", size.frames, list, n+1, w.p.Dirty())
			}
			if list := w.d.Loose(); len(list) != max(n+1-size.want, 0) {
				t.Errorf("New of %d has written %v behind %d pages", size.frames, list, n+1)
			}
		}
	}
}

// P8.1 New: nothing is read, written or forced by it, and a drive with more, fewer or no sectors has no part in how many frames there are.
func TestNewChangesNothing(t *testing.T) {
	for sectors := range most + 1 {
		w := newWorld(sectors, 3)
		for n := range sectors {
			w.d.Write(n, []byte("x"))
		}
		w.commit(t)
		before := w.seen()
		again := pool.New(w.d, w.l, most)
		if after := w.seen(); after != before || len(again.Held()) != 0 || len(again.Dirty()) != 0 {
			t.Errorf("New made %s of %s, and holds %v, %v", after, before, again.Held(), again.Dirty())
		}
	}
}

// P8.1 New: the frames of two pools are apart, what they stand in front of is one.
func TestPoolsAreApart(t *testing.T) {
	w := newWorld(3, 2)
	other := &world{d: w.d, x: w.x, l: w.l, p: pool.New(w.d, w.l, 2)}
	w.set(t, 1, of(1, 0))
	other.held(t)
	other.get(t, 1, api.Page{})
	errno(t, "Flush", w.p.Flush(1), api.OK)
	other.get(t, 1, api.Page{})
	other.dirty(t)
	other.get(t, 0, api.Page{})
	other.get(t, 2, api.Page{})
	other.held(t, 0, 2)
	other.get(t, 1, of(1, 0))
	w.held(t, 1)
}

// P8.1 Held and Dirty: rising, whatever the order of the calls, each once.
func TestHeldAndDirtyRise(t *testing.T) {
	for _, order := range [][]int{{}, {3}, {0}, {5}, {0, 5}, {5, 0}, {4, 2, 0}, {2, 4, 0, 4, 2}, {5, 4, 3, 2, 1, 0}, {3, 1, 5, 0, 2, 4, 3, 3}} {
		all := newWorld(most, most)
		some := newWorld(most, most)
		for k, n := range order {
			all.set(t, n, of(n, 0))
			if k%2 == 0 {
				some.set(t, n, of(n, 0))
			} else {
				some.p.Get(n)
			}
		}
		want := slices.Clone(order)
		slices.Sort(want)
		want = slices.Compact(want)
		all.held(t, want...)
		all.dirty(t, want...)
		some.held(t, want...)
		var set []int
		for k := 0; k < len(order); k += 2 {
			set = append(set, order[k])
		}
		slices.Sort(set)
		some.dirty(t, slices.Compact(set)...)
	}
}

// P8.1 Held and Dirty change nothing: what is USED, the frames and the HAND stay.
func TestHeldAndDirtyOnlyTell(t *testing.T) {
	made := func() *world {
		w := holding(t, 4, 2, 0)
		w.set(t, 1, of(1, 0))
		w.p.Pin(2)
		return w
	}
	unchanged(t, "Held", made, func(w *world) { w.p.Held() })
	unchanged(t, "Dirty", made, func(w *world) { w.p.Dirty() })
}

// P8.2 Get: of a page that isn't in a frame: what its sector has; of one without bytes the zero page; it isn't DIRTY.
func TestGetFromTheDrive(t *testing.T) {
	pages := []api.Page{{}, of(1, 0), of(2, 1), of(3, maxNum), {LSN: 7}, {Objs: [4]complex128{complex(otherNaN, math.Inf(-1)), complex(math.Copysign(0, -1), 0)}}}
	for frames := 1; frames <= most; frames++ {
		w := newWorld(most, frames)
		for n, x := range pages {
			if n > 0 {
				w.d.Write(n, form(x))
			}
		}
		w.d.Sync()
		for _, n := range []int{3, 0, 5, 1, 1, 4, 2, 0, 5} {
			w.get(t, n, pages[n])
			w.get(t, n, pages[n])
			w.dirty(t)
			w.loose(t)
			if !slices.Contains(w.p.Held(), n) {
				t.Errorf("%d isn't held behind its Get: %v", n, w.p.Held())
			}
		}
	}
}

// P8.2 Get: a sector that was written with no bytes is one without bytes.
func TestGetOfNoBytes(t *testing.T) {
	w := newWorld(2, 1)
	w.d.Write(0, form(of(0, 3)))
	w.d.Write(0, nil)
	w.get(t, 0, api.Page{})
	w.d.Write(1, form(api.Page{}))
	w.get(t, 1, api.Page{})
}

// P8.2 Get: a page that is in a frame is asked of the frame, whatever becomes of the sector.
func TestGetFromTheFrame(t *testing.T) {
	w := newWorld(3, 2)
	w.d.Write(0, form(of(0, 2)))
	w.get(t, 0, of(0, 2))
	w.d.Write(0, form(of(0, 4)))
	w.get(t, 0, of(0, 2))
	w.d.Write(0, []byte("x"))
	w.get(t, 0, of(0, 2))
	w.d.Write(0, nil)
	w.get(t, 0, of(0, 2))
	w.set(t, 1, of(1, 0))
	w.d.Write(1, []byte("x"))
	w.get(t, 1, of(1, 0))
	w.dirty(t, 1)
	w.sector(t, 1, []byte("x"))
}

// missing asks all calls that LOAD for a page that can't be had: the error, and nothing is changed.
func missing(t *testing.T, made func() *world, n int, want api.Errno) {
	t.Helper()
	w := made()
	w.getFails(t, n, want)
	errno(t, fmt.Sprint("Set of ", n), w.p.Set(n, of(n, 0)), want)
	errno(t, fmt.Sprint("Set of ", n, " to a zero page"), w.p.Set(n, api.Page{}), want)
	errno(t, fmt.Sprint("Pin of ", n), w.p.Pin(n), want)
	unchanged(t, fmt.Sprint("Get, Set and Pin of ", n), made, func(w *world) {
		w.p.Get(n)
		w.p.Set(n, of(n, 0))
		w.p.Set(n, of(n, -1))
		w.p.Pin(n)
	})
	for _, x := range wrongPages() {
		errno(t, fmt.Sprint("Set of ", n, " to ", x), w.p.Set(n, x), api.ErrPage)
	}
}

// stands are worlds in which a LOAD that fails might change something: empty frames, full ones, DIRTY, USED, PINNED ones, the HAND anywhere; so many pages are used, from the first on.
func stands(sectors, pages int) []func() *world {
	var list []func() *world
	for frames := 1; frames <= most; frames++ {
		for steps := range 2*frames + 2 {
			for pinned := range 3 {
				list = append(list, func() *world {
					w := newWorld(sectors, frames)
					lsn, _ := w.l.Append(api.Batch{Epoch: 1, Txn: 1})
					if pages == 0 {
						return w
					}
					for k := range steps {
						w.p.Set(k%pages, of(k, k%2*lsn))
					}
					for k, n := range w.p.Held() {
						if k < pinned {
							w.p.Pin(n)
						}
					}
					return w
				})
			}
		}
	}
	return list
}

// P8.2: no such sector: ErrSector, whatever is in the frames, also on a drive with no sectors.
func TestNoSuchSector(t *testing.T) {
	for sectors := range most + 1 {
		wrong := outside(sectors)
		for k, made := range stands(sectors, sectors) {
			missing(t, made, wrong[k%len(wrong)], api.ErrSector)
		}
		for _, n := range wrong {
			missing(t, func() *world { return newWorld(sectors, 2) }, n, api.ErrSector)
		}
	}
}

// P8.2: a sector with bytes that are none's: ErrPage, whatever is in the frames.
func TestBytesOfNoPage(t *testing.T) {
	wrong := others()
	for sectors := 1; sectors <= most; sectors++ {
		spoilt := sectors - 1
		for k, made := range stands(sectors, spoilt) {
			missing(t, func() *world {
				w := made()
				w.d.Write(spoilt, wrong[k%len(wrong)])
				return w
			}, spoilt, api.ErrPage)
		}
	}
	for _, b := range wrong {
		missing(t, func() *world {
			w := newWorld(2, 1)
			w.p.Set(0, of(0, 0))
			w.d.Write(1, b)
			return w
		}, 1, api.ErrPage)
	}
}

// P8.2: behind an ErrPage the page can be had, once the sector has a page's bytes.
func TestBytesThatAreMended(t *testing.T) {
	w := newWorld(2, 1)
	w.d.Write(0, []byte("x"))
	errno(t, "Set", w.p.Set(0, of(0, 0)), api.ErrPage)
	w.held(t)
	w.d.Write(0, form(of(0, 5)))
	w.get(t, 0, of(0, 5))
}

// P8.2: the errors of a LOAD in the chapter's order: where no frame is free, ErrSector and ErrPage come ahead of ErrPool.
func TestOrderOfErrors(t *testing.T) {
	made := func() *world {
		w := holding(t, 0, 1)
		w.p.Pin(0)
		w.p.Pin(1)
		w.d.Write(2, []byte("x"))
		return w
	}
	missing(t, made, 3, api.ErrPool)
	missing(t, made, 2, api.ErrPage)
	for _, n := range outside(most) {
		missing(t, made, n, api.ErrSector)
	}
}

// P8.2 Set: a page that isn't in a frame, and one that is: the frame has it, and is DIRTY; the drive is as it was.
func TestSet(t *testing.T) {
	w := newWorld(3, 3)
	w.d.Write(1, form(of(1, 4)))
	w.d.Sync()
	w.set(t, 1, of(1, 0))
	w.get(t, 1, of(1, 0))
	w.held(t, 1)
	w.dirty(t, 1)
	w.get(t, 2, api.Page{})
	w.dirty(t, 1)
	w.set(t, 2, of(2, 0))
	w.get(t, 2, of(2, 0))
	w.dirty(t, 1, 2)
	w.set(t, 1, of(9, 0))
	w.get(t, 1, of(9, 0))
	w.get(t, 2, of(2, 0))
	w.held(t, 1, 2)
	w.dirty(t, 1, 2)
	w.loose(t)
	w.sector(t, 1, form(of(1, 4)))
	w.sector(t, 2, nil)
}

// P8.2 Set: also to the page that it is already, a zero page among them: the frame is DIRTY.
func TestSetToTheSame(t *testing.T) {
	w := newWorld(2, 2)
	w.d.Write(1, form(of(1, 0)))
	w.d.Sync()
	w.get(t, 0, api.Page{})
	w.get(t, 1, of(1, 0))
	w.dirty(t)
	w.set(t, 1, of(1, 0))
	w.dirty(t, 1)
	w.set(t, 0, api.Page{})
	w.dirty(t, 0, 1)
	errno(t, "FlushAll", w.p.FlushAll(), api.OK)
	w.loose(t, 0, 1)
	w.sector(t, 0, form(api.Page{}))
	w.set(t, 0, api.Page{})
	w.dirty(t, 0)
}

// P8.2 Set: every LSN that can be, and all values; they are the same in the frame and behind the drive.
func TestSetOfAllKinds(t *testing.T) {
	special := []float64{0, math.Copysign(0, -1), 1, -1, math.Inf(1), math.Inf(-1), math.NaN(), otherNaN, math.MaxFloat64, math.SmallestNonzeroFloat64}
	for _, lsn := range []int{0, 1, 255, 256, 65536, maxNum - 1, maxNum} {
		for k, f := range special {
			x := api.Page{LSN: lsn, Objs: [4]complex128{complex(f, 1), complex(1, f), complex(f, f), complex(special[(k+1)%len(special)], f)}}
			w := newWorld(2, 1)
			w.set(t, 0, x)
			w.get(t, 0, x)
			w.set(t, 1, of(1, 0))
			w.sector(t, 0, form(x))
			w.get(t, 0, x)
			w.dirty(t)
		}
	}
}

// P8.2 Set: ErrPage for a page that isn't RIGHT, ahead of all else; a page that is in a frame stays what it is, and no more USED than it was.
func TestSetOfWrongPages(t *testing.T) {
	made := func() *world {
		w := holding(t, 0, 1, 2)
		w.get(t, 3, api.Page{})
		w.set(t, 3, of(3, 0))
		w.p.Flush(3)
		return w
	}
	for _, x := range wrongPages() {
		for _, n := range append(outside(most), 0, 1, 2, 3, 4) {
			errno(t, fmt.Sprint("Set of ", n, " to ", x), made().p.Set(n, x), api.ErrPage)
			unchanged(t, fmt.Sprint("Set of ", n, " to ", x), made, func(w *world) { w.p.Set(n, x) })
		}
	}
}

// P8.2 Set, Get: how often a page is PINNED is left as it is by them.
func TestPinsStay(t *testing.T) {
	w := holding(t, 0, 1)
	errno(t, "Pin", w.p.Pin(0), api.OK)
	errno(t, "Pin", w.p.Pin(0), api.OK)
	w.set(t, 0, of(0, 0))
	w.get(t, 0, of(0, 0))
	errno(t, "Flush", w.p.Flush(0), api.OK)
	errno(t, "FlushAll", w.p.FlushAll(), api.OK)
	errno(t, "Unpin", w.p.Unpin(0), api.OK)
	errno(t, "Unpin", w.p.Unpin(0), api.OK)
	errno(t, "Unpin", w.p.Unpin(0), api.ErrPool)
}

// P8.2 Pin: LOADs: the page is in a frame, not DIRTY; a page that is DIRTY stays so.
func TestPinLoads(t *testing.T) {
	w := newWorld(3, 2)
	w.d.Write(2, form(of(2, 6)))
	w.d.Sync()
	errno(t, "Pin", w.p.Pin(2), api.OK)
	w.held(t, 2)
	w.dirty(t)
	w.get(t, 2, of(2, 6))
	w.set(t, 1, of(1, 0))
	errno(t, "Pin", w.p.Pin(1), api.OK)
	w.dirty(t, 1)
	w.loose(t)
	errno(t, "Pin", w.p.Pin(0), api.ErrPool)
	w.held(t, 1, 2)
}

// P8.2 Pin and Unpin: so often, and no more often, in each number up to 1000, and once more.
func TestPinAndUnpinOften(t *testing.T) {
	for _, many := range []int{0, 1, 2, 3, 255, 256, 257, 999, 1000, 1001, 1500} {
		w := newWorld(2, 2)
		w.get(t, 0, api.Page{})
		errno(t, "Pin of another", w.p.Pin(1), api.OK)
		for k := range many {
			want := api.OK
			if k >= mostPins {
				want = api.ErrPool
			}
			errno(t, fmt.Sprint("Pin ", k+1), w.p.Pin(0), want)
		}
		for k := range min(many, mostPins) {
			errno(t, fmt.Sprint("Unpin ", k+1, " of ", many), w.p.Unpin(0), api.OK)
		}
		for range 2 {
			errno(t, fmt.Sprint("Unpin behind ", many), w.p.Unpin(0), api.ErrPool)
		}
		errno(t, "Unpin of another", w.p.Unpin(1), api.OK)
		errno(t, "Unpin of another", w.p.Unpin(1), api.ErrPool)
	}
}

// P8.2 Pin: once less makes room for once more, at 1000 too.
func TestPinAtTheMost(t *testing.T) {
	made := func() *world {
		w := holding(t, 0, 1)
		for range mostPins {
			w.p.Pin(0)
		}
		return w
	}
	unchanged(t, "Pin of one that is pinned 1000 times", made, func(w *world) { w.p.Pin(0) })
	w := made()
	for range 3 {
		errno(t, "Pin", w.p.Pin(0), api.ErrPool)
		errno(t, "Unpin", w.p.Unpin(0), api.OK)
		errno(t, "Pin", w.p.Pin(0), api.OK)
	}
	w.get(t, 2, api.Page{})
	w.get(t, 3, api.Page{})
	w.held(t, 0, 3)
}

// P8.2 Unpin: ErrPool for a page that isn't in a frame, or isn't PINNED: nothing is changed, and nothing is LOADED.
func TestUnpinOfWhatIsNot(t *testing.T) {
	made := func() *world {
		w := holding(t, 0, 1, 2)
		w.get(t, 3, api.Page{})
		w.p.Pin(2)
		w.set(t, 1, of(1, 0))
		return w
	}
	for _, n := range append(outside(most), 0, 1, 3, 4, 5) {
		errno(t, fmt.Sprint("Unpin of ", n), made().p.Unpin(n), api.ErrPool)
		unchanged(t, fmt.Sprint("Unpin of ", n), made, func(w *world) { w.p.Unpin(n) })
	}
	empty := newWorld(most, 3)
	for _, n := range append(outside(most), 0, 1, 2, 3, 4, 5) {
		errno(t, fmt.Sprint("Unpin of ", n), empty.p.Unpin(n), api.ErrPool)
	}
	empty.held(t)
}

// P8.2 Unpin: a page that was taken out and is in a frame again isn't PINNED.
func TestUnpinBehindAnotherLoad(t *testing.T) {
	w := newWorld(2, 1)
	errno(t, "Pin", w.p.Pin(0), api.OK)
	errno(t, "Unpin", w.p.Unpin(0), api.OK)
	errno(t, "Pin", w.p.Pin(1), api.OK)
	errno(t, "Unpin", w.p.Unpin(0), api.ErrPool)
	errno(t, "Unpin", w.p.Unpin(1), api.OK)
	w.get(t, 0, api.Page{})
	errno(t, "Unpin", w.p.Unpin(0), api.ErrPool)
	errno(t, "Unpin", w.p.Unpin(1), api.ErrPool)
}

// fillAll writes over a list and all of its spare room.
func fillAll(list []int) {
	list = list[:cap(list)]
	for i := range list {
		list[i] = 99
	}
}

// What is handed in is not changed and not kept.
func TestArgumentsAreTheirOwn(t *testing.T) {
	w := newWorld(3, 2)
	x := of(1, 0)
	w.set(t, 1, x)
	if x != of(1, 0) {
		t.Errorf("Set made %v of its argument", x)
	}
	x.Objs[0], x.LSN = 99, 99
	w.get(t, 1, of(1, 0))
	got, _ := w.p.Get(1)
	got.Objs[1], got.LSN = 99, 99
	w.get(t, 1, of(1, 0))
	errno(t, "Flush", w.p.Flush(1), api.OK)
	w.sector(t, 1, form(of(1, 0)))
}

// Answers are new memory: each stands when the others are written over, and so does the pool.
func TestAnswersAreNewMemory(t *testing.T) {
	w := newWorld(most, 5)
	for _, n := range []int{4, 0, 2, 5} {
		w.set(t, n, of(n, 0))
	}
	w.get(t, 1, api.Page{})
	held, again := w.p.Held(), w.p.Held()
	dirty, second := w.p.Dirty(), w.p.Dirty()
	fillAll(held)
	fillAll(dirty)
	if !slices.Equal(again, []int{0, 1, 2, 4, 5}) || !slices.Equal(second, []int{0, 2, 4, 5}) {
		t.Errorf("the second answers became %v and %v", again, second)
	}
	w.held(t, 0, 1, 2, 4, 5)
	w.dirty(t, 0, 2, 4, 5)
	for _, n := range []int{4, 0, 2, 5} {
		w.get(t, n, of(n, 0))
	}
}

// An answer stands when the pool becomes another one behind it.
func TestAnswersStand(t *testing.T) {
	w := newWorld(most, 2)
	w.set(t, 3, of(3, 0))
	w.get(t, 1, api.Page{})
	held, dirty := w.p.Held(), w.p.Dirty()
	x, _ := w.p.Get(3)
	spare := fmt.Sprint(held[:cap(held)], dirty[:cap(dirty)])
	w.set(t, 3, of(9, 0))
	w.set(t, 4, of(4, 0))
	w.set(t, 5, of(5, 0))
	w.p.FlushAll()
	w.p.Held()
	w.p.Dirty()
	if !slices.Equal(held, []int{1, 3}) || !slices.Equal(dirty, []int{3}) || x != of(3, 0) || fmt.Sprint(held[:cap(held)], dirty[:cap(dirty)]) != spare {
		t.Errorf("the answers became %v, %v and %v", held, dirty, x)
	}
}
