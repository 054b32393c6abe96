package sector_test

import (
	"bytes"
	"fmt"
	"math"
	"slices"
	"testing"

	"cloakroom/api"
	"cloakroom/sector"
)

const most = 6

// sizes holds what New may be asked for, and how many sectors there are then.
var sizes = []struct{ many, want int }{
	{math.MinInt, 0}, {math.MinInt + 1, 0}, {-6, 0}, {-1, 0}, {0, 0},
	{1, 1}, {2, 2}, {5, 5}, {6, 6}, {7, 6}, {8, 6}, {1 << 32, 6}, {1<<32 + 1, 6}, {math.MaxInt, 6},
}

// outside holds what is no sector of a drive of that size.
func outside(size int) []int {
	return []int{math.MinInt, math.MinInt + 1, -1 << 32, -size - 1, -1, size, size + 1, 7, 1 << 32, math.MaxInt}
}

// filled is a drive each of whose sectors has bytes of its own, all stable.
func filled(size int) *sector.Drive {
	d := sector.New(size)
	for i := range size {
		d.Write(i, []byte(old(i)))
	}
	d.Sync()
	return d
}

func old(i int) string { return fmt.Sprint("old", i) }

func fresh(i int) string { return fmt.Sprint("new ", i) }

// seen is all that a drive tells.
func seen(d *sector.Drive) string {
	told := fmt.Sprint(d.Len(), d.Loose())
	for i := range d.Len() {
		b, e := d.Read(i)
		told += fmt.Sprintf(" %q %d", b, e)
	}
	return told
}

func checkWrite(t *testing.T, d *sector.Drive, i int, text string) {
	t.Helper()
	if e := d.Write(i, []byte(text)); e != api.OK {
		t.Errorf("Write of %q to sector %d: %d", text, i, e)
	}
}

func checkRead(t *testing.T, d *sector.Drive, i int, want string) {
	t.Helper()
	if b, e := d.Read(i); e != api.OK || string(b) != want {
		t.Errorf("Read of sector %d: %q, %d, not %q", i, b, e, want)
	}
}

func checkLoose(t *testing.T, d *sector.Drive, want ...int) {
	t.Helper()
	if list := d.Loose(); !slices.Equal(list, want) {
		t.Errorf("Loose are %v, not %v", list, want)
	}
}

// checkStable crashes a drive that keeps nothing: what is there then was stable.
func checkStable(t *testing.T, d *sector.Drive, i int, want string) {
	t.Helper()
	d.Crash(0)
	checkRead(t, d, i, want)
}

// The section Errors and the limits.
func TestNumbers(t *testing.T) {
	if api.ErrSector != 51 || api.MaxPages != most {
		t.Error(api.ErrSector, api.MaxPages)
	}
}

// P5.1 New and Len: so many sectors, at least none and at most 6, all empty and stable so.
func TestNew(t *testing.T) {
	for _, size := range sizes {
		d := sector.New(size.many)
		if d.Len() != size.want {
			t.Errorf("New of %d has %d sectors", size.many, d.Len())
		}
		checkLoose(t, d)
		for i := range size.want {
			checkRead(t, d, i, "")
			checkWrite(t, d, i, "gone")
			checkStable(t, d, i, "")
		}
	}
}

// P5.1 New: each drive is its own.
func TestNewDrivesAreApart(t *testing.T) {
	a, b := sector.New(2), sector.New(2)
	checkWrite(t, a, 1, "a")
	checkLoose(t, b)
	checkRead(t, b, 1, "")
	b.Sync()
	checkLoose(t, a, 1)
	b.Crash(0)
	checkRead(t, a, 1, "a")
}

// P5.1 Len: nothing that is done to a drive makes it another one.
func TestLenStays(t *testing.T) {
	for _, size := range sizes {
		d := sector.New(size.many)
		for i := -1; i <= most; i++ {
			d.Write(i, []byte("some"))
			d.Read(i)
			d.Loose()
			d.Crash(i)
			d.Sync()
			if d.Len() != size.want {
				t.Fatalf("a drive of %d sectors has %d", size.want, d.Len())
			}
		}
	}
}

// P5.1 Write and Read: that sector has these bytes, the others have theirs.
func TestWriteAndRead(t *testing.T) {
	for size := 1; size <= most; size++ {
		for i := range size {
			d := filled(size)
			checkWrite(t, d, i, fresh(i))
			for j := range size {
				want := old(j)
				if j == i {
					want = fresh(i)
				}
				checkRead(t, d, j, want)
				checkRead(t, d, j, want)
			}
		}
	}
}

// P5.1 Write: the sector is written whole: fewer bytes leave none of those that were there.
func TestWriteIsWhole(t *testing.T) {
	d := sector.New(2)
	for _, text := range []string{"a long text", "short", "", "longer again", "\x00", "\x00\x00", "\xFF"} {
		checkWrite(t, d, 1, text)
		checkRead(t, d, 1, text)
		checkRead(t, d, 0, "")
	}
}

// P5.1 Write: up to 100 bytes, and each of them is there.
func TestWriteOfSizes(t *testing.T) {
	all := make([]byte, 100)
	for i := range all {
		all[i] = byte(255 - i)
	}
	d := sector.New(most)
	for size := range 101 {
		for _, i := range []int{0, most - 1} {
			checkWrite(t, d, i, string(all[:size]))
			checkRead(t, d, i, string(all[:size]))
			d.Sync()
			checkStable(t, d, i, string(all[:size]))
		}
	}
}

// P5.1 Write: of no bytes: nil and an empty list are one, and the sector is loose.
func TestWriteOfNone(t *testing.T) {
	for _, none := range [][]byte{nil, {}, make([]byte, 0, 200)} {
		d := filled(3)
		if e := d.Write(1, none); e != api.OK {
			t.Errorf("Write of none: %d", e)
		}
		checkRead(t, d, 1, "")
		checkLoose(t, d, 1)
		d.Crash(2)
		checkStable(t, d, 1, "")
	}
}

// P5.1 Write: no such sector, or more than 100 bytes, or both: nothing is changed, and none is loose by it.
func TestWriteOfWhatCannotBe(t *testing.T) {
	for size := range most + 1 {
		wrong := func(d *sector.Drive, i, length int) {
			t.Helper()
			before := seen(d)
			if e := d.Write(i, bytes.Repeat([]byte{7}, length)); e != api.ErrSector {
				t.Errorf("Write of %d bytes to sector %d of %d: %d", length, i, size, e)
			}
			if after := seen(d); after != before {
				t.Errorf("a Write that fails made %s of %s", after, before)
			}
		}
		all := func(d *sector.Drive) {
			t.Helper()
			for _, i := range outside(size) {
				for _, length := range []int{0, 1, 100, 101, 5000} {
					wrong(d, i, length)
				}
			}
			for i := range size {
				for _, length := range []int{101, 102, 256, 356, 1<<16 + 1} {
					wrong(d, i, length)
				}
			}
		}
		d := filled(size)
		all(d)
		if size > 0 {
			checkWrite(t, d, 0, fresh(0))
			all(d)
			checkLoose(t, d, 0)
		}
		d.Crash(0)
		if after, want := seen(d), seen(filled(size)); after != want {
			t.Errorf("behind Writes that fail what is stable is %s, not %s", after, want)
		}
	}
}

// P5.1 Read: no such sector: none.
func TestReadOfNone(t *testing.T) {
	for size := range most + 1 {
		d := filled(size)
		before := seen(d)
		for _, i := range outside(size) {
			if b, e := d.Read(i); e != api.ErrSector || len(b) != 0 {
				t.Errorf("Read of sector %d of %d: %q, %d", i, size, b, e)
			}
		}
		if after := seen(d); after != before {
			t.Errorf("a Read that fails made %s of %s", after, before)
		}
	}
}

// P5.1 Loose: rising, and each once, whatever the order and the number of the writes.
func TestLooseRises(t *testing.T) {
	for _, order := range [][]int{{}, {3}, {0}, {5}, {0, 5}, {5, 0}, {4, 2, 0}, {2, 4, 0, 4, 2}, {5, 4, 3, 2, 1, 0}, {3, 1, 5, 0, 2, 4, 3, 3}} {
		d := filled(most)
		for _, i := range order {
			checkWrite(t, d, i, fresh(i))
		}
		want := slices.Clone(order)
		slices.Sort(want)
		checkLoose(t, d, slices.Compact(want)...)
	}
}

// P5.1 Loose: also where the bytes are those that are stable, or become them again.
func TestLooseWithTheSameBytes(t *testing.T) {
	d := filled(3)
	checkWrite(t, d, 2, old(2))
	checkLoose(t, d, 2)
	checkWrite(t, d, 0, fresh(0))
	checkWrite(t, d, 0, old(0))
	checkLoose(t, d, 0, 2)

	empty := sector.New(2)
	checkWrite(t, empty, 0, "")
	checkLoose(t, empty, 0)
}

// P5.1 Loose and Read change nothing.
func TestLooseAndReadOnlyTell(t *testing.T) {
	d := filled(2)
	checkWrite(t, d, 1, fresh(1))
	for range 3 {
		checkLoose(t, d, 1)
		checkRead(t, d, 1, fresh(1))
	}
	checkStable(t, d, 1, old(1))
}

// P5.1 Sync: none is loose behind it, the bytes of all are as they were, and a crash doesn't take them.
func TestSync(t *testing.T) {
	for written := range 1 << most {
		d := filled(most)
		want := make([]string, most)
		for i := range most {
			want[i] = old(i)
			if written>>i&1 == 1 {
				want[i] = fresh(i)
				checkWrite(t, d, i, want[i])
			}
		}
		d.Sync()
		checkLoose(t, d)
		for i := range most {
			checkRead(t, d, i, want[i])
		}
		d.Sync()
		d.Crash(0)
		for i := range most {
			checkRead(t, d, i, want[i])
		}
	}
}

// P5.1 Sync: what is written behind it is loose again.
func TestWriteBehindSync(t *testing.T) {
	d := filled(3)
	checkWrite(t, d, 1, "synced")
	d.Sync()
	checkWrite(t, d, 1, "later")
	checkLoose(t, d, 1)
	checkRead(t, d, 1, "later")
	checkStable(t, d, 1, "synced")
}

// P5.2 Crash: the chapter's example: two sectors written, a crash that keeps the first: the second one is as before.
func TestCrashKeepsTheFirst(t *testing.T) {
	d := filled(2)
	checkWrite(t, d, 0, fresh(0))
	checkWrite(t, d, 1, fresh(1))
	d.Crash(1)
	checkRead(t, d, 0, fresh(0))
	checkRead(t, d, 1, old(1))
	checkLoose(t, d)
}

// keeps holds crashes' numbers with all sets of the sectors' bits, among bits above them and below 0.
func keeps() []int {
	list := []int{math.MinInt, math.MinInt + 1, -1 << 32, -64, -63, -2, -1, math.MaxInt, math.MaxInt - 1, 1 << 62, 1 << 32, 1<<32 + 4}
	for bits := range 1 << most {
		list = append(list, bits, bits|64, bits|1<<40, bits-1<<20)
	}
	return list
}

// kept tells whether a sector's bit is in keep: by division, as the chapter counts the bits, a negative one as the bits of its two's complement.
func kept(keep, i int) bool {
	worth := uint64(1)
	for range i {
		worth *= 2
	}
	return uint64(keep)/worth%2 == 1
}

// P5.2 Crash: each set of loose sectors with each set of bits: one that is loose is as keep says, another one as it was, whatever its bit; then none is loose, and all is stable.
func TestCrash(t *testing.T) {
	for written := range 1 << most {
		for _, keep := range keeps() {
			d := filled(most)
			want := make([]string, most)
			for i := range most {
				want[i] = old(i)
				if written>>i&1 == 0 {
					continue
				}
				d.Write(i, []byte(fresh(i)))
				if kept(keep, i) {
					want[i] = fresh(i)
				}
			}
			for _, again := range []int{keep, 0, -1, ^keep} {
				d.Crash(again)
				for i := range most {
					if b, e := d.Read(i); e != api.OK || string(b) != want[i] {
						t.Fatalf("written %b, kept %d, then %d: sector %d is %q, not %q", written, keep, again, i, b, want[i])
					}
				}
				if list := d.Loose(); len(list) != 0 {
					t.Fatalf("written %b, kept %d, then %d: loose are %v", written, keep, again, list)
				}
			}
		}
	}
}

// P5.2 Crash: drives of fewer sectors, none among them, with bits of sectors that they haven't.
func TestCrashOfSmallDrives(t *testing.T) {
	for size := range most {
		for _, keep := range keeps() {
			d := filled(size)
			for i := range size {
				checkWrite(t, d, i, fresh(i))
			}
			d.Crash(keep)
			checkLoose(t, d)
			for i := range size {
				want := old(i)
				if kept(keep, i) {
					want = fresh(i)
				}
				checkRead(t, d, i, want)
			}
		}
	}
}

// P5.2 Crash: what was kept is stable: a later crash takes only what was written behind.
func TestWriteBehindCrash(t *testing.T) {
	d := filled(2)
	checkWrite(t, d, 0, "first")
	checkWrite(t, d, 1, "first")
	d.Crash(2)
	checkWrite(t, d, 0, "second")
	checkWrite(t, d, 1, "second")
	checkLoose(t, d, 0, 1)
	d.Crash(0)
	checkRead(t, d, 0, old(0))
	checkRead(t, d, 1, "first")
	checkWrite(t, d, 0, "third")
	d.Crash(3)
	checkRead(t, d, 0, "third")
	checkRead(t, d, 1, "first")
}

// P5.2 Crash: of several writes to one sector the last one is kept, or none.
func TestCrashBehindSeveralWrites(t *testing.T) {
	for keep, want := range []string{old(0), "third"} {
		d := filled(1)
		for _, text := range []string{"first", "second", "third"} {
			checkWrite(t, d, 0, text)
		}
		d.Crash(keep)
		checkRead(t, d, 0, want)
		checkStable(t, d, 0, want)
	}
}

// P5.2 Crash: behind a Sync, and ahead of one: there is nothing to take.
func TestCrashAndSync(t *testing.T) {
	for _, keep := range keeps() {
		d := filled(2)
		checkWrite(t, d, 1, fresh(1))
		d.Sync()
		d.Crash(keep)
		checkRead(t, d, 0, old(0))
		checkRead(t, d, 1, fresh(1))
		checkWrite(t, d, 0, fresh(0))
		d.Crash(keep &^ 1)
		d.Sync()
		checkStable(t, d, 0, old(0))
		checkStable(t, d, 1, fresh(1))
	}
}

// fillAll writes over a list and all of its spare room.
func fillAll[T byte | int](list []T) {
	list = list[:cap(list)]
	for i := range list {
		list[i] = 99
	}
}

// What is handed in is not changed, spare room included, be the answer an error or not.
func TestArgumentsAreNotChanged(t *testing.T) {
	room := make([]byte, 300)
	for i := range room {
		room[i] = byte(i)
	}
	before := bytes.Clone(room)
	d := sector.New(3)
	for _, size := range []int{0, 1, 50, 100, 101, 200} {
		for i := -1; i <= 3; i++ {
			d.Write(i, room[:size])
			d.Write(i, []byte("other"))
			d.Crash(size)
			d.Sync()
			if !bytes.Equal(room, before) {
				t.Fatalf("Write of %d bytes to sector %d made %x of %x", size, i, room, before)
			}
		}
	}
}

// What is handed in is not kept: the sector's bytes, and the stable ones, stand when it is written over.
func TestArgumentsAreNotKept(t *testing.T) {
	d := sector.New(2)
	b := append(make([]byte, 0, 100), "bytes"...)
	for i := range 2 {
		if e := d.Write(i, b); e != api.OK {
			t.Error(e)
		}
	}
	d.Crash(1)
	d.Write(1, b)
	fillAll(b)
	checkRead(t, d, 0, "bytes")
	checkRead(t, d, 1, "bytes")
	d.Sync()
	checkWrite(t, d, 0, "other")
	checkStable(t, d, 0, "bytes")
	checkStable(t, d, 1, "bytes")
}

// Answers are new memory: each stands when the others are written over, and so does the drive.
func TestAnswersAreNewMemory(t *testing.T) {
	d := filled(3)
	checkWrite(t, d, 1, fresh(1))
	checkWrite(t, d, 2, fresh(2))
	for i, want := range []string{old(0), fresh(1), fresh(2)} {
		first, _ := d.Read(i)
		second, _ := d.Read(i)
		fillAll(first)
		if string(second) != want {
			t.Errorf("the second answer of Read became %q", second)
		}
		checkRead(t, d, i, want)
	}
	first, second := d.Loose(), d.Loose()
	fillAll(first)
	if !slices.Equal(second, []int{1, 2}) {
		t.Errorf("the second answer of Loose became %v", second)
	}
	checkLoose(t, d, 1, 2)
	d.Crash(2)
	for i, want := range []string{old(0), fresh(1), old(2)} {
		b, _ := d.Read(i)
		fillAll(b)
		checkRead(t, d, i, want)
		checkStable(t, d, i, want)
	}
}

// An answer stands when the drive becomes another one behind it.
func TestAnswersStand(t *testing.T) {
	d := filled(2)
	checkWrite(t, d, 1, fresh(1))
	b, _ := d.Read(1)
	list := d.Loose()
	checkWrite(t, d, 1, "xxxxx")
	checkWrite(t, d, 0, "x")
	d.Crash(2)
	d.Sync()
	if string(b) != fresh(1) || !slices.Equal(list, []int{1}) {
		t.Errorf("the answers became %q and %v", b, list)
	}
}

// history is what a drive of that size tells along a fixed row of calls of all kinds, with arguments of all kinds.
func history(size int) []string {
	d := sector.New(size)
	told := []string{seen(d)}
	places := append([]int{0, 1, 2, 3, 4, 5}, outside(d.Len())...)
	crashes := keeps()
	for k := range 400 {
		switch i := places[k*7%len(places)]; k % 5 {
		case 0, 1, 3:
			told = append(told, fmt.Sprint(d.Write(i, bytes.Repeat([]byte{byte(k)}, k*13%110))))
		case 2:
			b, e := d.Read(i)
			told = append(told, fmt.Sprint(b, e))
		case 4:
			if k%3 == 0 {
				d.Sync()
			} else {
				d.Crash(crashes[k*11%len(crashes)])
			}
		}
		told = append(told, seen(d))
	}
	return told
}

// P1 and P2: every call ends without a panic, and says the same again behind the same calls, whatever was done to other drives.
func TestAnswersHangOnCallsAlone(t *testing.T) {
	var first [][]string
	for _, size := range sizes {
		first = append(first, history(size.many))
	}
	for k := len(sizes) - 1; k >= 0; k-- {
		if again := history(sizes[k].many); !slices.Equal(again, first[k]) {
			t.Errorf("another history of a drive of %d sectors", sizes[k].want)
		}
	}
}
