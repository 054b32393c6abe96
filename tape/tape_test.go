package tape_test

import (
	"bytes"
	"fmt"
	"math"
	"slices"
	"strings"
	"testing"

	"cloakroom/api"
	"cloakroom/tape"
)

const most = 20000

// rooms holds what New and Limit may be asked for, and how much room there is then.
var rooms = []struct{ asked, want int }{
	{math.MinInt, 0}, {math.MinInt + 1, 0}, {-1 << 32, 0}, {-20000, 0}, {-1, 0}, {0, 0},
	{1, 1}, {2, 2}, {255, 255}, {256, 256}, {257, 257}, {19999, 19999}, {20000, 20000},
	{20001, 20000}, {20002, 20000}, {1 << 16, 20000}, {1 << 32, 20000}, {1<<32 + 1, 20000}, {math.MaxInt - 1, 20000}, {math.MaxInt, 20000},
}

// row is so many bytes, each other than those beside it, the first one of that number.
func row(first, many int) []byte {
	b := make([]byte, many)
	for i := range b {
		b[i] = byte((first + i) % 251)
	}
	return b
}

// made is a tape with much room, with these bytes that are safe and those behind them that aren't.
func made(safe, loose string) *tape.Tape {
	x := tape.New(most)
	x.Append([]byte(safe))
	x.Sync()
	x.Append([]byte(loose))
	return x
}

// checkTape asks for all that a tape tells.
func checkTape(t *testing.T, x *tape.Tape, want string, safe int) {
	t.Helper()
	if got := string(x.Bytes()); got != want {
		t.Errorf("on the tape is %.80q (%d), not %.80q (%d)", got, len(got), want, len(want))
	}
	if x.Safe() != safe {
		t.Errorf("%d bytes are safe, not %d", x.Safe(), safe)
	}
}

func checkAppend(t *testing.T, x *tape.Tape, b []byte, want api.Errno) {
	t.Helper()
	if e := x.Append(b); e != want {
		t.Errorf("Append of %d bytes to %d: %d, not %d", len(b), len(x.Bytes()), e, want)
	}
}

func checkDrop(t *testing.T, x *tape.Tape, n int, want bool) {
	t.Helper()
	if done := x.Drop(n); done != want {
		t.Errorf("Drop of %d with %d safe: %t", n, x.Safe(), done)
	}
}

// checkRoom asks how many more bytes there is room for: one more fail and change nothing, just as many do not. The tape is full then.
func checkRoom(t *testing.T, x *tape.Tape, want int) {
	t.Helper()
	before, safe := string(x.Bytes()), x.Safe()
	checkAppend(t, x, row(7, want+1), api.ErrFull)
	checkTape(t, x, before, safe)
	checkAppend(t, x, row(7, want), api.OK)
	before += string(row(7, want))
	checkTape(t, x, before, safe)
	checkFull(t, x)
}

// checkFull asks whether not one more byte has room, and none have.
func checkFull(t *testing.T, x *tape.Tape) {
	t.Helper()
	before, safe := string(x.Bytes()), x.Safe()
	for _, many := range []int{1, 2, 256, most, most + 1, 1 << 16} {
		checkAppend(t, x, row(1, many), api.ErrFull)
		checkTape(t, x, before, safe)
	}
	for _, none := range [][]byte{nil, {}, make([]byte, 0, 100)} {
		checkAppend(t, x, none, api.OK)
		checkTape(t, x, before, safe)
	}
}

// The section Errors and the limits.
func TestNumbers(t *testing.T) {
	if api.OK != 0 || api.ErrFull != 61 || api.MaxTape != most {
		t.Error(api.OK, api.ErrFull, api.MaxTape)
	}
}

// P6.1 New: nothing is on it, nothing is safe, and there is room for so many, at least none and at most 20000.
func TestNew(t *testing.T) {
	for _, room := range rooms {
		x := tape.New(room.asked)
		checkTape(t, x, "", 0)
		checkRoom(t, x, room.want)
	}
}

// P6.1 New: each tape is its own.
func TestNewTapesAreApart(t *testing.T) {
	a, b := tape.New(5), tape.New(5)
	checkAppend(t, a, []byte("abc"), api.OK)
	a.Sync()
	a.Limit(3)
	checkTape(t, b, "", 0)
	checkAppend(t, b, []byte("vwxyz"), api.OK)
	checkTape(t, b, "vwxyz", 0)
	checkTape(t, a, "abc", 3)
	b.Crash(1)
	b.Cut(0)
	checkTape(t, a, "abc", 3)
}

// P6.1 Limit: another room, as in New, on a tape with nothing on it, whatever its room was.
func TestLimit(t *testing.T) {
	for _, first := range []int{-1, 0, 3, most} {
		for _, room := range rooms {
			x := tape.New(first)
			x.Limit(room.asked)
			checkTape(t, x, "", 0)
			checkRoom(t, x, room.want)
		}
	}
}

// P6.1 Limit: the last one holds, and it counts all bytes, not those that come behind it.
func TestLimitOfATapeWithBytes(t *testing.T) {
	for _, room := range rooms {
		x := made("safe", "loose")
		x.Limit(0)
		x.Limit(most)
		x.Limit(room.asked)
		checkTape(t, x, "safeloose", 4)
		if room.want < 9 {
			checkFull(t, x)
		} else {
			checkRoom(t, x, room.want-9)
		}
	}
}

// P6.1 Limit: below what is on the tape: nothing is lost, by it or by what is done then, and there is room again when enough is gone.
func TestLimitBelowWhatIsThere(t *testing.T) {
	for _, room := range []int{math.MinInt, -1, 0, 1, 3, 4, 5, 8} {
		x := made("safe", "loose")
		x.Limit(room)
		checkTape(t, x, "safeloose", 4)
		checkFull(t, x)
		x.Sync()
		checkTape(t, x, "safeloose", 9)
		x.Crash(0)
		checkTape(t, x, "safeloose", 9)
		x.Cut(9)
		checkTape(t, x, "safeloose", 9)
		checkDrop(t, x, 0, true)
		checkTape(t, x, "safeloose", 9)
		room = max(room, 0)
		checkDrop(t, x, 9-room, true)
		checkTape(t, x, "safeloose"[9-room:], room)
		checkFull(t, x)
		if room > 0 {
			checkDrop(t, x, 1, true)
			checkRoom(t, x, 1)
		}
	}
}

// P6.1 Append: the bytes are behind the others, in their order, none of them safe.
func TestAppend(t *testing.T) {
	x := tape.New(most)
	want := ""
	for _, text := range []string{"a", "bc", "", "\x00", "\x00\x00", "\xFF\xFE", "def", "def", strings.Repeat("long ", 100)} {
		checkAppend(t, x, []byte(text), api.OK)
		want += text
		checkTape(t, x, want, 0)
		checkTape(t, x, want, 0)
	}
}

// P6.1 Append: byte by byte up to the room, and no further.
func TestAppendByteByByte(t *testing.T) {
	for _, room := range []int{0, 1, 2, 3, 16, 300} {
		x := tape.New(room)
		all := row(9, room)
		for i := range room {
			checkAppend(t, x, all[i:i+1], api.OK)
			checkTape(t, x, string(all[:i+1]), 0)
		}
		checkFull(t, x)
	}
}

// P6.1 Append: just as many as there is room for, and one more, with some on the tape already, safe or not.
func TestAppendUpToTheRoom(t *testing.T) {
	for _, room := range []int{1, 2, 10, 19999, 20000} {
		for _, there := range []int{1, room / 2, room - 1, room} {
			for _, safe := range []bool{false, true} {
				x := tape.New(room)
				checkAppend(t, x, row(0, there), api.OK)
				if safe {
					x.Sync()
				}
				checkRoom(t, x, room-there)
			}
		}
	}
}

// P6.1 Append: of none changes nothing: on an empty tape, without room, on a full one.
func TestAppendOfNone(t *testing.T) {
	for _, none := range [][]byte{nil, {}, make([]byte, 0, 50)} {
		for _, room := range rooms {
			x := tape.New(room.asked)
			checkAppend(t, x, none, api.OK)
			checkTape(t, x, "", 0)
			full := row(3, room.want)
			checkAppend(t, x, full, api.OK)
			x.Sync()
			checkAppend(t, x, none, api.OK)
			checkTape(t, x, string(full), len(full))
			x.Limit(room.want / 2)
			checkAppend(t, x, none, api.OK)
			checkTape(t, x, string(full), len(full))
		}
	}
}

// P6.1 Append: one that fails leaves no part of its bytes, and the room as it was; what has room then is behind the others.
func TestAppendThatFails(t *testing.T) {
	x := tape.New(6)
	checkAppend(t, x, []byte("ab"), api.OK)
	x.Sync()
	checkAppend(t, x, []byte("c"), api.OK)
	checkAppend(t, x, []byte("wxyz"), api.ErrFull)
	checkAppend(t, x, []byte("wxyz"), api.ErrFull)
	checkTape(t, x, "abc", 2)
	checkAppend(t, x, []byte("def"), api.OK)
	checkTape(t, x, "abcdef", 2)
	checkAppend(t, x, []byte("g"), api.ErrFull)
	checkTape(t, x, "abcdef", 2)
}

// P6.1 Sync and Safe: all that is there is safe, what comes behind isn't till the next one.
func TestSync(t *testing.T) {
	x := tape.New(10)
	checkTape(t, x, "", 0)
	for range 2 {
		x.Sync()
		checkTape(t, x, "", 0)
	}
	checkAppend(t, x, []byte("abc"), api.OK)
	checkTape(t, x, "abc", 0)
	for range 3 {
		x.Sync()
		checkTape(t, x, "abc", 3)
	}
	checkAppend(t, x, []byte("de"), api.OK)
	checkTape(t, x, "abcde", 3)
	x.Sync()
	checkTape(t, x, "abcde", 5)
	checkAppend(t, x, []byte("too much"), api.ErrFull)
	x.Sync()
	checkTape(t, x, "abcde", 5)
}

// P6.1 Sync: on tapes without room and full ones.
func TestSyncOfAllRooms(t *testing.T) {
	for _, room := range rooms {
		x := tape.New(room.asked)
		x.Sync()
		checkTape(t, x, "", 0)
		full := row(5, room.want)
		checkAppend(t, x, full, api.OK)
		checkTape(t, x, string(full), 0)
		x.Sync()
		checkTape(t, x, string(full), room.want)
	}
}

// P6.2: the chapter's example.
func TestExample(t *testing.T) {
	x := tape.New(100)
	checkAppend(t, x, []byte("abc"), api.OK)
	x.Sync()
	checkAppend(t, x, []byte("de"), api.OK)
	checkDrop(t, x, 2, true)
	checkTape(t, x, "cde", 1)
	x.Crash(1)
	checkTape(t, x, "cd", 2)
}

// P6.2 Drop: as many as are safe, and no more; so many fewer are safe then.
func TestDrop(t *testing.T) {
	for _, safe := range []string{"", "a", "abc", "abcdef"} {
		for _, loose := range []string{"", "v", "vwxyz"} {
			for n := range len(safe) + 1 {
				x := made(safe, loose)
				checkDrop(t, x, n, true)
				checkTape(t, x, (safe + loose)[n:], len(safe)-n)
				x.Crash(0)
				checkTape(t, x, safe[n:], len(safe)-n)
			}
		}
	}
}

// P6.2 Drop: below 0, or more than are safe, though there are so many: nothing changes.
func TestDropOfWhatCannotBe(t *testing.T) {
	for _, safe := range []string{"", "a", "abc"} {
		for _, loose := range []string{"", "v", "vwxyz"} {
			x := made(safe, loose)
			wrong := []int{math.MinInt, math.MinInt + 1, -1 << 32, -len(safe), -2, -1, len(safe) + 1, len(safe) + len(loose) + 1, most, most + 1, 1 << 32, math.MaxInt - 1, math.MaxInt}
			for _, n := range wrong {
				if n == 0 {
					continue
				}
				checkDrop(t, x, n, false)
				checkTape(t, x, safe+loose, len(safe))
			}
			checkRoom(t, x, most-len(safe+loose))
		}
	}
}

// P6.2 Drop: again and again, with bytes that come between.
func TestDropAgain(t *testing.T) {
	x := made("abcdef", "gh")
	checkDrop(t, x, 2, true)
	checkDrop(t, x, 3, true)
	checkTape(t, x, "fgh", 1)
	checkDrop(t, x, 2, false)
	checkAppend(t, x, []byte("ij"), api.OK)
	checkDrop(t, x, 1, true)
	checkTape(t, x, "ghij", 0)
	checkDrop(t, x, 1, false)
	x.Sync()
	checkDrop(t, x, 4, true)
	checkTape(t, x, "", 0)
	checkDrop(t, x, 0, true)
	checkDrop(t, x, 1, false)
}

// P6.2 Drop: also of a tape as long as one can be.
func TestDropOfALongTape(t *testing.T) {
	all := row(0, most)
	for _, n := range []int{0, 1, 255, 256, 257, 10000, 19999, 20000} {
		x := made(string(all), "")
		checkDrop(t, x, most+1, false)
		checkDrop(t, x, n, true)
		checkTape(t, x, string(all[n:]), most-n)
		checkRoom(t, x, n)
	}
}

// cuts holds numbers of bytes for Cut and Crash: the edges of all numbers, and those about many.
func cuts(many int) []int {
	list := []int{math.MinInt, math.MinInt + 1, -1 << 32, -many - 1, -many, -1, most, most + 1, 1 << 32, 1<<32 + 1, math.MaxInt - many, math.MaxInt - 1, math.MaxInt}
	for n := range many + 3 {
		list = append(list, n)
	}
	return list
}

// P6.2 Cut: the first n are left, all where there are no more, none below 0; each as safe as it was.
func TestCut(t *testing.T) {
	for _, safe := range []string{"", "a", "abc", "abcdef"} {
		for _, loose := range []string{"", "v", "vwxyz"} {
			all := safe + loose
			for _, n := range cuts(len(all)) {
				left := all
				if n < 0 {
					left = ""
				} else if n < len(all) {
					left = all[:n]
				}
				still := len(left)
				if still > len(safe) {
					still = len(safe)
				}
				x := made(safe, loose)
				x.Cut(n)
				checkTape(t, x, left, still)
				x.Cut(n)
				checkTape(t, x, left, still)
				x.Crash(0)
				checkTape(t, x, left[:still], still)
			}
		}
	}
}

// P6.2 Cut: what comes behind it isn't safe, though bytes that were there were.
func TestAppendBehindCut(t *testing.T) {
	x := made("abcd", "ef")
	x.Cut(2)
	checkTape(t, x, "ab", 2)
	checkAppend(t, x, []byte("xyz"), api.OK)
	checkTape(t, x, "abxyz", 2)
	checkDrop(t, x, 3, false)
	x.Cut(4)
	checkTape(t, x, "abxy", 2)
	x.Crash(-1)
	checkTape(t, x, "ab", 2)
}

// P6.2 Crash: what is safe is left, and keep bytes behind it, as far as there are; all of that is safe.
func TestCrash(t *testing.T) {
	for _, safe := range []string{"", "a", "abc", "abcdef"} {
		for _, loose := range []string{"", "v", "vwxyz"} {
			for _, keep := range cuts(len(loose)) {
				left := safe + loose
				if keep < 0 {
					left = safe
				} else if keep < len(loose) {
					left = safe + loose[:keep]
				}
				x := made(safe, loose)
				x.Crash(keep)
				checkTape(t, x, left, len(left))
				for _, again := range []int{math.MinInt, -1, 0, 1, keep, math.MaxInt} {
					x.Crash(again)
					checkTape(t, x, left, len(left))
				}
				checkDrop(t, x, len(left)+1, false)
				checkDrop(t, x, len(left), true)
				checkTape(t, x, "", 0)
			}
		}
	}
}

// P6.2 Crash: of a tape as long as one can be, and of one that a Limit leaves no room.
func TestCrashOfALongTape(t *testing.T) {
	all := row(0, most)
	for _, safe := range []int{0, 1, 9999, 19999, 20000} {
		for _, keep := range []int{math.MinInt, -1, 0, 1, 19999, 20000, 20001, math.MaxInt} {
			x := made(string(all[:safe]), string(all[safe:]))
			x.Limit(-1)
			x.Crash(keep)
			left := safe
			if keep > most-safe {
				left = most
			} else if keep > 0 {
				left = safe + keep
			}
			checkTape(t, x, string(all[:left]), left)
		}
	}
}

// P6.2 Crash: what comes behind it isn't safe, and a later crash takes that alone.
func TestAppendBehindCrash(t *testing.T) {
	x := made("ab", "cd")
	x.Crash(1)
	checkAppend(t, x, []byte("xyz"), api.OK)
	checkTape(t, x, "abcxyz", 3)
	x.Crash(2)
	checkTape(t, x, "abcxy", 5)
	checkAppend(t, x, []byte("q"), api.OK)
	x.Crash(0)
	checkTape(t, x, "abcxy", 5)
}

// P6.1 and P6.2: what a Drop, a Cut or a Crash takes is room for later bytes, and just so much.
func TestRoomThatIsMade(t *testing.T) {
	full := func() *tape.Tape {
		x := tape.New(8)
		checkAppend(t, x, []byte("abcd"), api.OK)
		x.Sync()
		checkAppend(t, x, []byte("efgh"), api.OK)
		checkFull(t, x)
		return x
	}
	for n := range 5 {
		x := full()
		checkDrop(t, x, n, true)
		checkRoom(t, x, n)
		x = full()
		x.Crash(4 - n)
		checkRoom(t, x, n)
	}
	for n := range 9 {
		x := full()
		x.Cut(8 - n)
		checkRoom(t, x, n)
	}
	x := full()
	checkDrop(t, x, 5, false)
	x.Cut(8)
	x.Crash(4)
	checkFull(t, x)
}

// fillAll writes over a list and all of its spare room.
func fillAll(list []byte) {
	list = list[:cap(list)]
	for i := range list {
		list[i] = 99
	}
}

// What is handed in is not changed, spare room included, be the answer an error or not.
func TestArgumentsAreNotChanged(t *testing.T) {
	room := row(0, 300)
	before := bytes.Clone(room)
	for _, limit := range []int{0, 1, 50, 300, most} {
		x := tape.New(limit)
		for _, size := range []int{0, 1, 50, 200, 51, 20} {
			x.Append(room[:size])
			x.Append([]byte("other"))
			x.Cut(size)
			x.Append([]byte("another"))
			x.Sync()
			x.Drop(1)
			x.Append([]byte("the last one"))
			x.Crash(2)
			if !bytes.Equal(room, before) {
				t.Fatalf("Append of %d bytes, and what came then, made %x of %x", size, room, before)
			}
		}
	}
}

// What is handed in is not kept: the tape's bytes stand when it is written over, whatever was done to them.
func TestArgumentsAreNotKept(t *testing.T) {
	b := append(make([]byte, 0, 100), "bytes"...)
	for _, done := range []func(*tape.Tape){(*tape.Tape).Sync, func(x *tape.Tape) { x.Crash(9) }, func(x *tape.Tape) { x.Drop(0) }, func(x *tape.Tape) { x.Cut(9) }} {
		x := tape.New(most)
		copy(b, "bytes")
		checkAppend(t, x, b, api.OK)
		done(x)
		safe := x.Safe()
		fillAll(b)
		checkTape(t, x, "bytes", safe)
		copy(b, "again")
		checkAppend(t, x, b, api.OK)
		fillAll(b)
		checkTape(t, x, "bytesagain", safe)
	}
}

// A tape's own bytes, handed in again, are as any others.
func TestAppendOfItsOwnBytes(t *testing.T) {
	x := made("ab", "c")
	checkAppend(t, x, x.Bytes(), api.OK)
	checkTape(t, x, "abcabc", 2)
	x.Cut(3)
	checkAppend(t, x, x.Bytes()[1:], api.OK)
	checkTape(t, x, "abcbc", 2)
}

// Answers are new memory: each stands when the others are written over, and so does the tape.
func TestAnswersAreNewMemory(t *testing.T) {
	check := func(x *tape.Tape, want string) {
		t.Helper()
		safe := x.Safe()
		first, second := x.Bytes(), x.Bytes()
		fillAll(first)
		if string(second) != want {
			t.Errorf("the second answer became %q", second)
		}
		checkTape(t, x, want, safe)
		checkAppend(t, x, []byte("!"), api.OK)
		fillAll(first)
		fillAll(second)
		checkTape(t, x, want+"!", safe)
	}
	x := tape.New(50)
	check(x, "")
	x.Append([]byte("bcdef"))
	check(x, "!bcdef")
	x.Sync()
	check(x, "!bcdef!")
	x.Drop(3)
	check(x, "def!!")
	x.Cut(3)
	check(x, "def")
	x.Crash(0)
	check(x, "def")
	x.Crash(1)
	check(x, "def!")
}

// An answer stands when the tape becomes another one behind it.
func TestAnswersStand(t *testing.T) {
	x := made("abc", "def")
	b := x.Bytes()
	spare := bytes.Clone(b[:cap(b)])
	x.Cut(1)
	x.Append([]byte("xyz"))
	x.Sync()
	x.Drop(1)
	x.Append([]byte("xyz"))
	x.Crash(1)
	x.Append([]byte("many more bytes than there were"))
	if string(b) != "abcdef" || !bytes.Equal(b[:cap(b)], spare) {
		t.Errorf("the answer became %q", b)
	}
}

// cell is a byte of the tape that the tests keep beside, with whether it is safe.
type cell struct {
	value byte
	safe  bool
}

// beside is a tape as the chapter tells it, byte by byte.
type beside struct {
	cells []cell
	room  int
}

func (m *beside) limit(room int) {
	m.room = 0
	for m.room < room && m.room < most {
		m.room++
	}
}

func (m *beside) append(b []byte) api.Errno {
	if len(b) > 0 && len(m.cells)+len(b) > m.room {
		return api.ErrFull
	}
	for _, value := range b {
		m.cells = append(m.cells, cell{value: value})
	}
	return api.OK
}

func (m *beside) safe() int {
	many := 0
	for _, c := range m.cells {
		if c.safe {
			many++
		}
	}
	return many
}

func (m *beside) sync() {
	for i := range m.cells {
		m.cells[i].safe = true
	}
}

func (m *beside) drop(n int) bool {
	if n < 0 || n > m.safe() {
		return false
	}
	m.cells = m.cells[n:]
	return true
}

func (m *beside) cut(n int) {
	var left []cell
	for i, c := range m.cells {
		if i < n {
			left = append(left, c)
		}
	}
	m.cells = left
}

func (m *beside) crash(keep int) {
	var left []cell
	for _, c := range m.cells {
		if !c.safe {
			if keep <= 0 {
				break
			}
			keep--
		}
		left = append(left, c)
	}
	m.cells = left
	m.sync()
}

func (m *beside) text() string {
	b := make([]byte, len(m.cells))
	for i, c := range m.cells {
		b[i] = c.value
	}
	return string(b)
}

// step does call k with argument a to both, and tells what each answered.
func step(x *tape.Tape, m *beside, k, a int) (string, string) {
	switch k {
	case 0:
		b := row(a, min(max(a, 0), most+5))
		return fmt.Sprint(x.Append(b)), fmt.Sprint(m.append(b))
	case 1:
		x.Sync()
		m.sync()
	case 2:
		x.Limit(a)
		m.limit(a)
	case 3:
		return fmt.Sprint(x.Drop(a)), fmt.Sprint(m.drop(a))
	case 4:
		x.Cut(a)
		m.cut(a)
	case 5:
		x.Crash(a)
		m.crash(a)
	}
	return "", ""
}

// P6.1 and P6.2: every row of four calls with small arguments, on small tapes, answers what the chapter tells.
func TestAllShortHistories(t *testing.T) {
	type call struct{ k, a int }
	calls := []call{{0, 0}, {0, 1}, {0, 2}, {0, 3}, {1, 0}, {2, 1}, {2, 3}, {3, -1}, {3, 1}, {3, 2}, {4, 0}, {4, 1}, {4, 2}, {5, -1}, {5, 0}, {5, 1}, {5, 2}}
	many := len(calls)
	for code := range many * many * many * many {
		x, m := tape.New(4), &beside{room: 4}
		x.Append([]byte("ab"))
		m.append([]byte("ab"))
		rest := code
		for range 4 {
			c := calls[rest%many]
			rest /= many
			got, want := step(x, m, c.k, c.a)
			if got != want || string(x.Bytes()) != m.text() || x.Safe() != m.safe() {
				t.Fatalf("history %d, at %v: %s, %q, %d, not %s, %q, %d", code, c, got, x.Bytes(), x.Safe(), want, m.text(), m.safe())
			}
		}
	}
}

// history is what a tape tells along a fixed row of calls of all kinds, with arguments of all kinds; each is held against the tape beside.
func history(t *testing.T, room int) []string {
	t.Helper()
	x, m := tape.New(room), &beside{}
	m.limit(room)
	arguments := []int{math.MinInt, -1, 0, 1, 2, 3, 5, 8, 13, 40, 100, 700, 19990, 20000, 20001, 1 << 32, math.MaxInt}
	kinds := []int{0, 0, 1, 0, 3, 0, 0, 4, 0, 5, 0, 2, 0, 3}
	var told []string
	for k := range 500 {
		kind, argument := kinds[k%len(kinds)], arguments[(k*k+k*7)%len(arguments)]
		got, want := step(x, m, kind, argument)
		if got != want || string(x.Bytes()) != m.text() || x.Safe() != m.safe() {
			t.Fatalf("room %d, call %d (%d of %d): %s, %d bytes, %d safe, not %s, %d, %d", room, k, kind, argument, got, len(x.Bytes()), x.Safe(), want, len(m.cells), m.safe())
		}
		told = append(told, fmt.Sprintf("%s %x %d", got, x.Bytes(), x.Safe()))
	}
	return told
}

// P1 and P2: every call ends without a panic, and says the same again behind the same calls, whatever was done to other tapes.
func TestAnswersHangOnCallsAlone(t *testing.T) {
	var first [][]string
	for _, room := range rooms {
		first = append(first, history(t, room.asked))
	}
	for k := len(rooms) - 1; k >= 0; k-- {
		if again := history(t, rooms[k].asked); !slices.Equal(again, first[k]) {
			t.Errorf("another history of a tape with room for %d", rooms[k].want)
		}
	}
}
