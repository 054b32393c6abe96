package store_test

import (
	"fmt"
	"math"
	"slices"
	"testing"

	"cloakroom/api"
	"cloakroom/page"
	"cloakroom/sector"
	"cloakroom/store"
	"cloakroom/tape"
	"cloakroom/wal"
)

const (
	most     = 6
	objs     = 4
	mostPuts = 24
	maxNum   = 16777215
	mostTape = 20000
	// markSize is how many bytes a MARK is.
	markSize = 20
)

// otherNaN is not a number, by other bits than those of its one form.
var otherNaN = math.Float64frombits(0xFFF8000000000123)

// world is a store, with the tape and the drive that it was opened on.
type world struct {
	x *tape.Tape
	d *sector.Drive
	s *store.Store
}

// opened is the store of a tape and a drive that can be opened.
func opened(t *testing.T, x *tape.Tape, d *sector.Drive, frames int) *world {
	t.Helper()
	s, e := store.Open(x, d, frames)
	if e != api.OK || s == nil {
		t.Fatalf("Open: %v, %d", s, e)
	}
	return &world{x: x, d: d, s: s}
}

func newWorld(t *testing.T, sectors, frames int) *world {
	t.Helper()
	return opened(t, tape.New(mostTape), sector.New(sectors), frames)
}

func put(page, obj int, v complex128) api.Put {
	return api.Put{Page: page, Obj: obj, Value: v}
}

func commit(lsn int, puts ...api.Put) api.Batch {
	return api.Batch{LSN: lsn, Client: lsn % 4, Epoch: 1, Txn: lsn, Puts: puts}
}

func mark(lsn int) api.Batch {
	return api.Batch{LSN: lsn}
}

// places are Puts on the first so many places, of all pages, in their order.
func places(many int) []api.Put {
	var l []api.Put
	for k := range many {
		l = append(l, put(k/objs, k%objs, complex(float64(k), 1)))
	}
	return l
}

// row is the bytes of batches that can be, one behind the other.
func row(batches ...api.Batch) []byte {
	var l []byte
	for _, b := range batches {
		form, e := wal.Bytes(b)
		if e != api.OK {
			panic(fmt.Sprint("no batch: ", b))
		}
		l = append(l, form...)
	}
	return l
}

// form is the bytes of a page that can be.
func form(x api.Page) []byte {
	b, e := page.Bytes(x)
	if e != api.OK {
		panic(fmt.Sprint("no page: ", x))
	}
	return b
}

// bits tells a complex number by the bits of its parts, all that is not a number in one form.
func bits(c complex128) string {
	told := ""
	for _, f := range []float64{real(c), imag(c)} {
		if f != f {
			told += "/nan"
			continue
		}
		told += fmt.Sprintf("/%x", math.Float64bits(f))
	}
	return told
}

// pages tells pages, with the bits of all parts.
func pages(list ...api.Page) string {
	told := ""
	for _, x := range list {
		told += fmt.Sprint("[", x.LSN)
		for _, c := range x.Objs {
			told += bits(c)
		}
		told += "]"
	}
	return told
}

// batches tells batches, with the bits of all parts.
func batches(list ...api.Batch) string {
	told := ""
	for _, b := range list {
		told += fmt.Sprint("[", b.LSN, b.Client, b.Epoch, b.Txn)
		for _, p := range b.Puts {
			told += fmt.Sprint(" ", p.Page, ".", p.Obj, bits(p.Value))
		}
		told += "]"
	}
	return told
}

// after is the pages of a drive that had zero pages, behind these commits, told plainly.
func after(sectors int, commits ...api.Batch) []api.Page {
	all := make([]api.Page, sectors)
	for _, b := range commits {
		for _, p := range b.Puts {
			all[p.Page].Objs[p.Obj] = p.Value
			all[p.Page].LSN = b.LSN
		}
	}
	return all
}

// commit is a commit that can be; its LSN is the Batch's.
func (w *world) commit(t *testing.T, b api.Batch) {
	t.Helper()
	if lsn, e := w.s.Commit(b.Client, b.Epoch, b.Txn, b.Puts); lsn != b.LSN || e != api.OK {
		t.Errorf("Commit of %v: %d, %d", b, lsn, e)
	}
}

// fails is a commit that can't be.
func (w *world) fails(t *testing.T, b api.Batch, want api.Errno) {
	t.Helper()
	if lsn, e := w.s.Commit(b.Client, b.Epoch, b.Txn, b.Puts); lsn != 0 || e != want {
		t.Errorf("Commit of %v: %d, %d, not 0, %d", b, lsn, e, want)
	}
}

// has asks for all pages: by Map, and one by one.
func (w *world) has(t *testing.T, want ...api.Page) {
	t.Helper()
	list, e := w.s.Map()
	if e != api.OK || pages(list...) != pages(want...) {
		t.Errorf("Map is %s, %d, not %s", pages(list...), e, pages(want...))
	}
	for n, x := range want {
		w.page(t, n, x)
	}
}

func (w *world) page(t *testing.T, n int, want api.Page) {
	t.Helper()
	if x, e := w.s.Page(n); e != api.OK || pages(x) != pages(want) {
		t.Errorf("Page %d is %s, %d, not %s", n, pages(x), e, pages(want))
	}
}

func (w *world) noPage(t *testing.T, n int, want api.Errno) {
	t.Helper()
	if x, e := w.s.Page(n); e != want || x != (api.Page{}) {
		t.Errorf("Page %d is %v, %d, not a zero page and %d", n, x, e, want)
	}
}

func (w *world) noMap(t *testing.T, want api.Errno) {
	t.Helper()
	if list, e := w.s.Map(); e != want || len(list) != 0 {
		t.Errorf("Map is %v, %d, not none and %d", list, e, want)
	}
}

// log asks for all that is told of the log.
func (w *world) log(t *testing.T, last, durable int, commits ...api.Batch) {
	t.Helper()
	if w.s.Last() != last || w.s.Durable() != durable {
		t.Errorf("Last %d, Durable %d, not %d, %d", w.s.Last(), w.s.Durable(), last, durable)
	}
	if list := w.s.Commits(); batches(list...) != batches(commits...) {
		t.Errorf("Commits are %s, not %s", batches(list...), batches(commits...))
	}
}

// tape asks for what is on the tape, and how many of these batches are safe.
func (w *world) tape(t *testing.T, safe int, want ...api.Batch) {
	t.Helper()
	if got := w.x.Bytes(); !slices.Equal(got, row(want...)) || w.x.Safe() != len(row(want[:safe]...)) {
		found, many := wal.Scan(got)
		t.Errorf("on the tape is %s (%d of %d bytes, %d safe), not %s, %d of them safe", batches(found...), many, len(got), w.x.Safe(), batches(want...), safe)
	}
}

// loose asks which sectors aren't stable.
func (w *world) loose(t *testing.T, want ...int) {
	t.Helper()
	if list := w.d.Loose(); !slices.Equal(list, want) {
		t.Errorf("loose are %v, not %v", list, want)
	}
}

// sector asks for the page of which a sector has the bytes.
func (w *world) sector(t *testing.T, n int, want api.Page) {
	t.Helper()
	if b, e := w.d.Read(n); e != api.OK || !slices.Equal(b, form(want)) {
		x, f := page.Read(b)
		t.Errorf("sector %d has %s, %d (%d), not %s", n, pages(x), f, e, pages(want))
	}
}

// empty asks that sectors have no bytes.
func (w *world) empty(t *testing.T, sectors ...int) {
	t.Helper()
	for _, n := range sectors {
		if b, e := w.d.Read(n); e != api.OK || len(b) > 0 {
			t.Errorf("sector %d has %x, %d", n, b, e)
		}
	}
}

func errno(t *testing.T, call string, got, want api.Errno) {
	t.Helper()
	if got != want {
		t.Errorf("%s: %d, not %d", call, got, want)
	}
}

// devices tells all of a tape and a drive, but its stable bytes.
func devices(x *tape.Tape, d *sector.Drive) string {
	told := fmt.Sprintf("%x %d %v", x.Bytes(), x.Safe(), d.Loose())
	for n := range d.Len() {
		b, e := d.Read(n)
		told += fmt.Sprintf(" %x %d", b, e)
	}
	return told
}

// seen is all that can be told without changing anything.
func (w *world) seen() string {
	return fmt.Sprint(w.s.Last(), w.s.Durable(), batches(w.s.Commits()...), devices(w.x, w.d))
}

// probe goes on with calls that tell what else is kept: which pages are in frames, which of them aren't written, and what the next commit is.
func (w *world) probe() string {
	told := w.seen()
	for _, n := range []int{0, 1, 2, 3, 4, 5, 0, 3, 1, 4, 2, 5, 5, 0} {
		x, e := w.s.Page(n)
		told += fmt.Sprint("\n", n, pages(x), e, w.seen())
	}
	lsn, e := w.s.Commit(0, 1, 1, nil)
	return told + fmt.Sprint("\n", lsn, e, w.seen())
}

// unchanged asks that a call, made in a world that is made twice, leaves it as the other one is without it.
func unchanged(t *testing.T, name string, made func() *world, call func(w *world)) {
	t.Helper()
	with, without := made(), made()
	call(with)
	if got, want := with.probe(), without.probe(); got != want {
		t.Errorf("%s changed something: %s\nnot\n%s", name, got, want)
	}
}

// The limits, and the errors that the store hands on.
func TestNumbers(t *testing.T) {
	if api.MaxPages != most || api.MaxObjs != objs || api.MaxPuts != mostPuts || api.MaxNum != maxNum || api.MaxTape != mostTape {
		t.Error(api.MaxPages, api.MaxObjs, api.MaxPuts, api.MaxNum, api.MaxTape)
	}
	if api.OK != 0 || api.ErrPage != 41 || api.ErrSector != 51 || api.ErrFull != 61 || api.ErrWal != 71 || api.ErrPool != 81 {
		t.Error(api.OK, api.ErrPage, api.ErrSector, api.ErrFull, api.ErrWal, api.ErrPool)
	}
}

// The chapter's example: a commit that isn't Synced, a crash that keeps nothing: the Map is as before.
func TestExample(t *testing.T) {
	w := newWorld(t, most, most)
	w.commit(t, commit(1, put(1, 2, 3i)))
	w.s.Sync()
	before := after(most, commit(1, put(1, 2, 3i)))
	w.has(t, before...)
	w.commit(t, commit(2, put(1, 2, 4), put(5, 0, 5)))
	w.has(t, after(most, commit(1, put(1, 2, 3i)), commit(2, put(1, 2, 4), put(5, 0, 5)))...)
	w.x.Crash(0)
	w.d.Crash(0)
	w = opened(t, w.x, w.d, most)
	w.has(t, before...)
	w.log(t, 1, 1, commit(1, put(1, 2, 3i)))
	w.commit(t, commit(2))
}

// P9.2: commits of ordinary transactions, with every number of frames: each is on the log and in its pages; none is safe ahead of a Sync where all have a frame.
func TestCommits(t *testing.T) {
	all := []api.Batch{
		commit(1, put(0, 0, 1)),
		commit(2, put(0, 0, 2), put(0, 3, 3i), put(4, 1, 4)),
		commit(3, put(0, 1, 5)),
		commit(4, put(1, 0, 6), put(2, 0, 7), put(3, 0, 8), put(4, 0, 9), put(5, 0, 10)),
		commit(5),
		commit(6, places(mostPuts)...),
		commit(7, put(5, 3, complex(-1, -2))),
	}
	for frames := 1; frames <= most; frames++ {
		w := newWorld(t, most, frames)
		for k, b := range all {
			w.commit(t, b)
			if w.s.Last() != k+1 || batches(w.s.Commits()...) != batches(all[:k+1]...) {
				t.Errorf("behind commit %d: Last %d, %v", k+1, w.s.Last(), w.s.Commits())
			}
			if frames == most {
				w.tape(t, 0, all[:k+1]...)
				w.loose(t)
				w.empty(t, 0, 1, 2, 3, 4, 5)
			}
			w.has(t, after(most, all[:k+1]...)...)
		}
		w.s.Sync()
		w.log(t, 7, 7, all...)
		w.tape(t, 7, all...)
		w.has(t, after(most, all...)...)
	}
}

// P9.2 Commit: the Puts are Set in frames: the page that has to give its frame to another one is on the drive, behind the log.
func TestCommitsGoThroughFrames(t *testing.T) {
	w := newWorld(t, most, 1)
	one := commit(1, put(2, 0, 1), put(2, 1, 2))
	w.commit(t, one)
	w.tape(t, 0, one)
	w.log(t, 1, 0, one)
	w.loose(t)
	two := commit(2, put(2, 1, 3), put(4, 3, 4), put(5, 0, 5))
	w.commit(t, two)
	w.log(t, 2, 2, one, two)
	w.tape(t, 2, one, two)
	w.loose(t, 2, 4)
	pages := after(most, one, two)
	w.sector(t, 2, pages[2])
	w.sector(t, 4, pages[4])
	w.empty(t, 0, 1, 3, 5)
	three := commit(3, put(5, 1, 6))
	w.commit(t, three)
	w.log(t, 3, 2, one, two, three)
	w.loose(t, 2, 4)
	w.page(t, 4, pages[4])
	w.log(t, 3, 3, one, two, three)
	w.sector(t, 5, after(most, one, two, three)[5])
}

// P9.2 Commit: values of all kinds come back as they were, from a frame, from the drive and from the log.
func TestValues(t *testing.T) {
	nan := math.NaN()
	values := []complex128{0, complex(math.Copysign(0, -1), 0), complex(0, math.Copysign(0, -1)), complex(math.Inf(1), math.Inf(-1)), complex(nan, 1), complex(otherNaN, otherNaN),
		complex(math.MaxFloat64, math.SmallestNonzeroFloat64), complex(-math.MaxFloat64, -math.SmallestNonzeroFloat64), 1, 1i, complex(0.1, -1e300)}
	for frames := 1; frames <= 2; frames++ {
		for _, v := range values {
			w := newWorld(t, 2, frames)
			b := commit(1, put(0, 2, v), put(1, 3, v))
			w.commit(t, b)
			w.has(t, after(2, b)...)
			w.log(t, 1, w.s.Durable(), b)
			w = opened(t, w.x, w.d, frames)
			w.has(t, after(2, b)...)
			errno(t, "Checkpoint", w.s.Checkpoint(), api.OK)
			w = opened(t, w.x, w.d, frames)
			w.has(t, after(2, b)...)
		}
	}
}

// P9.2 Commit: the numbers' edges that can be, each with all others.
func TestNumbersOfCommits(t *testing.T) {
	w := newWorld(t, 1, 1)
	lsn := 0
	var all []api.Batch
	for _, client := range []int{0, 1, 2, 3} {
		for _, epoch := range []int{1, 2, maxNum - 1, maxNum} {
			for _, txn := range []int{1, 2, maxNum - 1, maxNum} {
				lsn++
				b := api.Batch{LSN: lsn, Client: client, Epoch: epoch, Txn: txn, Puts: []api.Put{put(0, lsn%objs, complex(float64(lsn), 0))}}
				w.commit(t, b)
				all = append(all, b)
			}
		}
	}
	w.log(t, lsn, 0, all...)
	w.has(t, after(1, all...)...)
}

// P9.2 Commit: every place of every page, alone and with those behind it.
func TestPlaces(t *testing.T) {
	all := places(mostPuts)
	for from := range all {
		for to := from + 1; to <= len(all); to++ {
			w := newWorld(t, most, 1+to%most)
			b := commit(1, all[from:to]...)
			w.commit(t, b)
			w.has(t, after(most, b)...)
		}
	}
}

// busy is a world with pages in two frames that aren't written, commits that aren't safe, and a drive of so many sectors.
func busy(t *testing.T, sectors int) func() *world {
	return func() *world {
		t.Helper()
		w := newWorld(t, sectors, 2)
		w.commit(t, commit(1, put(0, 0, 1), put(1, 1, 2)))
		w.s.Sync()
		w.commit(t, commit(2, put(0, 0, 3), put(1, 1, 4)))
		return w
	}
}

// outside holds what is no sector of a drive of that size.
func outside(size int) []int {
	return []int{math.MinInt, math.MinInt + 1, -1 << 32, -size - 1, -1, size, size + 1, 7, 1 << 32, 1<<32 + 1, math.MaxInt}
}

// P9.2 Commit: ErrSector, where the first one, one between, or the last one of the Puts' pages is no sector: nothing is changed.
func TestCommitOutside(t *testing.T) {
	for _, sectors := range []int{2, 3, 5, 6} {
		for _, n := range outside(sectors) {
			rows := [][]api.Put{
				{put(n, 0, 9)},
				{put(n, 0, 9), put(0, 0, 9), put(1, 0, 9)},
				{put(0, 0, 9), put(n, 0, 9), put(1, 0, 9)},
				{put(0, 0, 9), put(1, 0, 9), put(n, 0, 9)},
			}
			for _, puts := range rows {
				unchanged(t, fmt.Sprint("Commit outside ", puts), busy(t, sectors), func(w *world) {
					w.fails(t, commit(3, puts...), api.ErrSector)
				})
			}
		}
	}
}

// P9.2 Commit: with no sectors every Put is outside, and commits without Puts are as ever.
func TestCommitWithoutSectors(t *testing.T) {
	w := newWorld(t, 0, 3)
	for _, n := range append(outside(0), 0, 1, 5) {
		w.fails(t, commit(1, put(n, 0, 1)), api.ErrSector)
	}
	w.commit(t, commit(1))
	w.commit(t, commit(2))
	w.log(t, 2, 0, commit(1), commit(2))
	w.s.Sync()
	w.log(t, 2, 2, commit(1), commit(2))
	w.has(t)
	errno(t, "Checkpoint", w.s.Checkpoint(), api.OK)
	w.tape(t, 1, mark(2))
	w = opened(t, w.x, w.d, 1)
	w.log(t, 2, 2)
	w.has(t)
}

// wrongCommits holds what is no COMMIT, with pages that are sectors of a drive of two.
func wrongCommits() []api.Batch {
	l := []api.Batch{
		{Epoch: 1, Txn: 1, Puts: []api.Put{put(0, 0, 1), put(0, 0, 2)}},
		{Epoch: 1, Txn: 1, Puts: []api.Put{put(0, 0, 1), put(0, 0, 1)}},
		{Epoch: 1, Txn: 1, Puts: []api.Put{put(0, 1, 1), put(0, 0, 1)}},
		{Epoch: 1, Txn: 1, Puts: []api.Put{put(1, 0, 1), put(0, 1, 1)}},
		{Epoch: 1, Txn: 1, Puts: []api.Put{put(0, 0, 1), put(1, 0, 1), put(0, 1, 1)}},
		{Epoch: 1, Txn: 1, Puts: []api.Put{put(0, 0, 1), put(1, 0, 1), put(1, 0, 1)}},
		{Epoch: 1, Txn: 1, Puts: append(places(8), places(8)...)},
	}
	for _, n := range []int{math.MinInt, -1, 0, maxNum + 1, 1 << 24, 1 << 32, math.MaxInt} {
		l = append(l, api.Batch{Epoch: n, Txn: 1}, api.Batch{Epoch: 1, Txn: n}, api.Batch{Epoch: n, Txn: n})
		l = append(l, api.Batch{Epoch: n, Txn: 1, Puts: places(5)}, api.Batch{Epoch: 1, Txn: n, Puts: places(5)})
	}
	for _, n := range []int{math.MinInt, -1, 4, 5, 1 << 32, math.MaxInt} {
		l = append(l, api.Batch{Client: n, Epoch: 1, Txn: 1}, api.Batch{Client: n, Epoch: 1, Txn: 1, Puts: places(8)})
		for at := range 2 {
			puts := []api.Put{put(0, 1, 1), put(1, 1, 1)}
			puts[at].Obj = n
			l = append(l, api.Batch{Epoch: 1, Txn: 1, Puts: puts})
		}
	}
	return l
}

// P9.2 Commit: a Batch that can't be is the Log's error, and 0, and nothing is changed: no page, none that was in a frame.
func TestWrongCommits(t *testing.T) {
	for _, sectors := range []int{2, 4} {
		for _, b := range wrongCommits() {
			unchanged(t, fmt.Sprint("Commit of ", b), busy(t, sectors), func(w *world) {
				w.fails(t, b, api.ErrWal)
			})
		}
	}
}

// P9.2 Commit: all places, which are as many Puts as can be; one more is the Log's error.
func TestManyPuts(t *testing.T) {
	all := places(mostPuts)
	w := newWorld(t, most, 3)
	w.commit(t, commit(1, all...))
	w.has(t, after(most, commit(1, all...))...)
	for at := range mostPuts + 1 {
		more := slices.Insert(slices.Clone(all), at, put(min(at, mostPuts-1)/objs, min(at, mostPuts-1)%objs, 77))
		unchanged(t, "Commit of one Put more", busy(t, most), func(w *world) {
			w.fails(t, commit(3, more...), api.ErrWal)
		})
	}
	unchanged(t, "Commit of very many Puts", busy(t, most), func(w *world) {
		w.fails(t, commit(3, make([]api.Put, 100000)...), api.ErrWal)
	})
	unchanged(t, "Commit of very many Puts, the last one outside", busy(t, most), func(w *world) {
		w.fails(t, commit(3, append(make([]api.Put, 100000), put(most, 0, 0))...), api.ErrSector)
	})
}

// P9.2 Commit: a tape without room for the Batch is the Log's error, and 0, and nothing is changed; with just so much room it is there.
func TestCommitWithoutRoom(t *testing.T) {
	for many := range 9 {
		b := commit(3, places(many)...)
		size := len(row(b))
		for _, left := range []int{-100, -1, 0, 1, size - 1} {
			made := func() *world {
				w := busy(t, 3)()
				w.x.Limit(len(w.x.Bytes()) + left)
				return w
			}
			unchanged(t, fmt.Sprint("Commit of ", many, " Puts where ", left, " bytes are left"), made, func(w *world) {
				w.fails(t, b, api.ErrFull)
				w.fails(t, api.Batch{Client: 4, Epoch: 1, Txn: 1}, api.ErrWal)
			})
		}
		w := busy(t, 3)()
		w.x.Limit(len(w.x.Bytes()) + size)
		w.commit(t, b)
		w.has(t, after(3, commit(1, put(0, 0, 1), put(1, 1, 2)), commit(2, put(0, 0, 3), put(1, 1, 4)), b)...)
		w.fails(t, commit(4), api.ErrFull)
	}
}

// P9.2 Commit: ErrSector comes ahead of all that the Log may say.
func TestWhichErrorFirst(t *testing.T) {
	wrong := append(wrongCommits(), commit(3, places(8)...), commit(3))
	for _, n := range []int{-1, 2, 5, 6, math.MaxInt} {
		for _, b := range wrong {
			for at := range 2 {
				puts := slices.Insert(slices.Clone(b.Puts), at*len(b.Puts), put(n, 0, 1))
				w := busy(t, 2)()
				w.x.Limit(0)
				before := w.seen()
				b.Puts = puts
				w.fails(t, b, api.ErrSector)
				if w.seen() != before {
					t.Errorf("Commit of %v changed something", b)
				}
			}
		}
	}
}

// P9.2 Commit: the LSNs rise one by one, whatever fails between, and whatever is called.
func TestLSNsRise(t *testing.T) {
	w := newWorld(t, 3, 2)
	for lsn := 1; lsn <= 60; lsn++ {
		w.fails(t, commit(lsn, put(3, 0, 1)), api.ErrSector)
		w.fails(t, api.Batch{Txn: 1}, api.ErrWal)
		w.commit(t, commit(lsn, put(lsn%3, lsn%objs, complex(0, float64(lsn)))))
		switch lsn % 7 {
		case 0:
			w.s.Sync()
		case 1:
			errno(t, "Checkpoint", w.s.Checkpoint(), api.OK)
		case 2:
			w.s.Map()
		case 3:
			w = opened(t, w.x, w.d, lsn%4)
		}
		if w.s.Last() != lsn {
			t.Errorf("Last is %d, not %d", w.s.Last(), lsn)
		}
	}
}

// P9.2 Commit: the greatest LSN can be had; behind it there are no more.
func TestNoMoreLSNs(t *testing.T) {
	x := tape.New(mostTape)
	x.Append(row(mark(maxNum - 2)))
	made := func() *world {
		y := tape.New(mostTape)
		y.Append(x.Bytes())
		return opened(t, y, sector.New(2), 2)
	}
	w := made()
	w.log(t, maxNum-2, 0)
	one, two := commit(maxNum-1, put(0, 0, 1), put(0, 1, 2)), commit(maxNum, put(0, 1, 3), put(1, 3, 4))
	w.commit(t, one)
	w.commit(t, two)
	w.log(t, maxNum, 0, one, two)
	w.has(t, after(2, one, two)...)
	w.fails(t, commit(1), api.ErrWal)
	w.fails(t, commit(1, put(0, 0, 5)), api.ErrWal)
	w.fails(t, commit(1, put(2, 0, 5)), api.ErrSector)
	w.log(t, maxNum, 0, one, two)
	w.has(t, after(2, one, two)...)
	errno(t, "Checkpoint", w.s.Checkpoint(), api.OK)
	w.tape(t, 1, mark(maxNum))
	w.fails(t, commit(1), api.ErrWal)
	w = opened(t, w.x, w.d, 1)
	w.has(t, after(2, one, two)...)
	w.fails(t, commit(1, put(0, 0, 5)), api.ErrWal)
	w.has(t, after(2, one, two)...)
}

// P9.2 Page: of every sector, and of none.
func TestPage(t *testing.T) {
	for sectors := range most + 1 {
		for frames := 1; frames <= 3; frames++ {
			w := newWorld(t, sectors, frames)
			b := commit(1, places(sectors*objs)...)
			w.commit(t, b)
			want := after(sectors, b)
			for k := range 3 * sectors {
				n := k * 5 % sectors
				w.page(t, n, want[n])
			}
			for _, n := range outside(sectors) {
				unchanged(t, fmt.Sprint("Page ", n), func() *world {
					w := newWorld(t, sectors, frames)
					w.commit(t, b)
					return w
				}, func(w *world) { w.noPage(t, n, api.ErrSector) })
			}
		}
	}
}

// P9.2 Page and Map: a sector with bytes that are none's is layer 4's error; where its page is in a frame, that one is told.
func TestOtherBytes(t *testing.T) {
	for n := range most {
		w := newWorld(t, most, 2)
		b := commit(1, put(n, 1, 1))
		w.commit(t, b)
		w.d.Write(n, []byte("none"))
		w.page(t, n, after(most, b)[n])
		w = newWorld(t, most, most)
		w.d.Write(n, []byte("none"))
		w.noPage(t, n, api.ErrPage)
		w.noMap(t, api.ErrPage)
		for other := range most {
			if other != n {
				w.page(t, other, api.Page{})
			}
		}
		w.noPage(t, n, api.ErrPage)
		w.d.Write(n, form(api.Page{LSN: 0, Objs: [4]complex128{1, 2, 3, 4}}))
		w.page(t, n, api.Page{LSN: 0, Objs: [4]complex128{1, 2, 3, 4}})
		w.d.Write(n, nil)
		w.page(t, n, api.Page{LSN: 0, Objs: [4]complex128{1, 2, 3, 4}})
	}
}

// P9.2 Commit on a page whose sector has bytes that are none's: the Batch is on the log; the page can't be had, till its sector can be read and a store is opened anew.
func TestCommitOnOtherBytes(t *testing.T) {
	w := newWorld(t, 3, 3)
	w.d.Write(1, []byte("none"))
	b := commit(1, put(0, 0, 1), put(1, 0, 2))
	w.s.Commit(b.Client, b.Epoch, b.Txn, b.Puts)
	w.log(t, 1, 0, b)
	w.noPage(t, 1, api.ErrPage)
	w.page(t, 0, after(3, b)[0])
	w.commit(t, commit(2, put(2, 0, 3)))
	w.d.Crash(0)
	w = opened(t, w.x, w.d, 3)
	w.has(t, after(3, b, commit(2, put(2, 0, 3)))...)
}

// P9.2 Map: all pages, rising, with every number of sectors and of frames, also those that were never written.
func TestMap(t *testing.T) {
	for sectors := range most + 1 {
		for frames := -1; frames <= most+1; frames++ {
			w := newWorld(t, sectors, frames)
			w.has(t, after(sectors)...)
			var all []api.Batch
			for n := range sectors {
				b := commit(n+1, put(sectors-1-n, n%objs, complex(float64(n), 2)))
				w.commit(t, b)
				all = append(all, b)
				w.has(t, after(sectors, all...)...)
			}
		}
	}
}

// P9.2 Map: it takes frames as Get does: what was in them and isn't written is on the drive then, behind the log.
func TestMapTakesFrames(t *testing.T) {
	w := newWorld(t, 3, 1)
	b := commit(1, put(2, 0, 1))
	w.commit(t, b)
	w.log(t, 1, 0, b)
	w.loose(t)
	w.has(t, after(3, b)...)
	w.log(t, 1, 1, b)
	w.loose(t, 2)
	w = newWorld(t, 3, 3)
	w.commit(t, b)
	w.has(t, after(3, b)...)
	w.log(t, 1, 0, b)
	w.loose(t)
}

// P9.2 Sync, Last, Durable, Commits: behind each commit and each Sync.
func TestSync(t *testing.T) {
	w := newWorld(t, 2, 2)
	w.s.Sync()
	w.log(t, 0, 0)
	var all []api.Batch
	durable := 0
	for lsn := 1; lsn <= 20; lsn++ {
		b := commit(lsn, put(lsn%2, lsn%objs, 1))
		w.commit(t, b)
		all = append(all, b)
		w.log(t, lsn, durable, all...)
		if lsn%3 == 0 {
			w.s.Sync()
			durable = lsn
			w.log(t, lsn, durable, all...)
			w.s.Sync()
			w.log(t, lsn, durable, all...)
		}
		w.tape(t, durable, all...)
		w.loose(t)
	}
}

// P9.2: what is handed in stays as it was, spare room too, and may be written over behind the call.
func TestWhatIsHandedIn(t *testing.T) {
	w := newWorld(t, most, 2)
	spare := make([]api.Put, mostPuts)
	want := places(10)
	copy(spare, want)
	for k := 10; k < mostPuts; k++ {
		spare[k] = put(9, 9, 9)
	}
	w.commit(t, api.Batch{LSN: 1, Client: 2, Epoch: 3, Txn: 4, Puts: spare[:10]})
	for k, p := range spare {
		if k < 10 && p != want[k] || k >= 10 && p != put(9, 9, 9) {
			t.Errorf("what was handed in is changed: %v", spare)
		}
	}
	w.fails(t, api.Batch{LSN: 2, Client: 2, Epoch: 0, Txn: 4, Puts: spare[:10]}, api.ErrWal)
	w.fails(t, api.Batch{LSN: 2, Client: 2, Epoch: 3, Txn: 4, Puts: spare}, api.ErrSector)
	if !slices.Equal(spare[:10], want) || spare[10] != put(9, 9, 9) {
		t.Errorf("what was handed in is changed: %v", spare)
	}
	for k := range spare {
		spare[k] = put(0, 0, 1e9)
	}
	b := api.Batch{LSN: 1, Client: 2, Epoch: 3, Txn: 4, Puts: want}
	w.log(t, 1, w.s.Durable(), b)
	w.has(t, after(most, b)...)
	w = opened(t, w.x, w.d, 2)
	w.has(t, after(most, b)...)
}

// The rule on memory: answers are new, spare room too, and no two lists share any.
func TestAnswersAreNew(t *testing.T) {
	w := newWorld(t, most, most)
	all := []api.Batch{commit(1, places(3)...), commit(2, places(5)...), commit(3)}
	for _, b := range all {
		w.commit(t, b)
	}
	list := w.s.Commits()
	for k := range list {
		puts := list[k].Puts
		for at := range puts {
			puts[at] = put(5, 3, 1e9)
		}
		for at := range puts[:cap(puts)] {
			puts[:cap(puts)][at] = put(5, 3, 1e9)
		}
		if k+1 < len(list) && batches(list[k+1]) != batches(all[k+1]) {
			t.Errorf("two lists of one answer share memory: %v", list)
		}
	}
	clear(list[:cap(list)])
	w.log(t, 3, 0, all...)
	found, _ := w.s.Map()
	for k := range found[:cap(found)] {
		found[:cap(found)][k] = api.Page{LSN: 9}
	}
	w.has(t, after(most, all...)...)
	w.log(t, 3, 0, all...)
}

// P9.2: a nil list of Puts and an empty one are one.
func TestNoPuts(t *testing.T) {
	w := newWorld(t, 2, 1)
	for lsn, puts := range [][]api.Put{nil, {}, make([]api.Put, 0, 5)} {
		w.commit(t, commit(lsn+1, puts...))
	}
	w.log(t, 3, 0, commit(1), commit(2), commit(3))
	w.tape(t, 0, commit(1), commit(2), commit(3))
	w.has(t, api.Page{}, api.Page{})
	w.loose(t)
}
