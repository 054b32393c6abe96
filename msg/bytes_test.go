package msg_test

import (
	"bytes"
	"math"
	"slices"
	"testing"

	"cloakroom/api"
	"cloakroom/msg"
)

// num is the three bytes of a number, as the tests make them.
func num(n int) []byte {
	return []byte{byte(n >> 16), byte(n >> 8), byte(n)}
}

// eight is eight bytes of bits, the highest first.
func eight(n uint64) []byte {
	var l []byte
	for k := 56; k >= 0; k -= 8 {
		l = append(l, byte(n>>k))
	}
	return l
}

func part(f float64) []byte {
	if f != f {
		return eight(0x7FF8000000000001)
	}
	return eight(math.Float64bits(f))
}

func value(c complex128) []byte {
	return append(part(real(c)), part(imag(c))...)
}

// head is the eight numbers of a message, whatever they are.
func head(kind, page, obj, txn, copies, own, write, many int) []byte {
	return slices.Concat(num(kind), num(page), num(obj), num(txn), num(copies), num(own), num(write), num(many))
}

// form is a message's bytes as the chapter tells it, be it right or not.
func form(m api.Msg) []byte {
	write := 0
	if m.Write {
		write = 1
	}
	l := head(m.Kind, m.Page, m.Obj, m.Txn, m.Copy, m.Own, write, len(m.Puts))
	for _, p := range m.Puts {
		l = slices.Concat(l, num(p.Page), num(p.Obj), value(p.Value))
	}
	if m.Kind == 5 {
		for _, c := range m.Values {
			l = append(l, value(c)...)
		}
	}
	return l
}

// readBeside is Read as the chapter tells it: what the bytes seem to say is read without any look at it, and then made again.
func readBeside(b []byte) (api.Msg, bool) {
	at := func(k int) int { return int(b[k])<<16 | int(b[k+1])<<8 | int(b[k+2]) }
	float := func(k int) float64 {
		var n uint64
		for _, x := range b[k : k+8] {
			n = n<<8 | uint64(x)
		}
		return math.Float64frombits(n)
	}
	if len(b) < 24 {
		return api.Msg{}, false
	}
	m := api.Msg{Kind: at(0), Page: at(3), Obj: at(6), Txn: at(9), Copy: at(12), Own: at(15), Write: at(18) == 1}
	k := 24
	for ; k+22 <= len(b) && len(m.Puts) < at(21); k += 22 {
		m.Puts = append(m.Puts, put(at(k), at(k+3), complex(float(k+6), float(k+14))))
	}
	for obj := 0; m.Kind == 5 && obj < objs && k+16 <= len(b); obj++ {
		m.Values[obj] = complex(float(k), float(k+8))
		k += 16
	}
	if !rightBeside(m) || !bytes.Equal(form(m), b) {
		return api.Msg{}, false
	}
	return m, true
}

func checkBytes(t *testing.T, m api.Msg, want []byte) {
	t.Helper()
	if got, e := msg.Bytes(m); e != api.OK || !bytes.Equal(got, want) {
		t.Errorf("Bytes of %s: %x, %d, not %x", told(m), got, e, want)
	}
}

func checkRead(t *testing.T, b []byte, want api.Msg) {
	t.Helper()
	if got, e := msg.Read(b); e != api.OK || told(got) != told(want) || !msg.Same(got, want) {
		t.Errorf("Read of %x: %s, %d, not %s", b, told(got), e, told(want))
	}
}

func checkNoMsg(t *testing.T, b []byte) {
	t.Helper()
	if got, e := msg.Read(b); e != 101 || told(got) != told(api.Msg{}) {
		t.Errorf("Read of %d bytes, %x: %s, %d", len(b), b[:min(len(b), 600)], told(got), e)
	}
}

// checkReadBeside asks for what the tests work out, a message or none.
func checkReadBeside(t *testing.T, b []byte) {
	t.Helper()
	if want, there := readBeside(b); there {
		checkRead(t, b, want)
	} else {
		checkNoMsg(t, b)
	}
}

// The chapter's example: AskRead of page 0, object 0.
func TestExample(t *testing.T) {
	checkBytes(t, api.Msg{Kind: api.AskRead}, make([]byte, 24))
	checkRead(t, make([]byte, 24), api.Msg{})
}

// P10.2: a message of each kind, its bytes written out, there and back.
func TestBytesWrittenOut(t *testing.T) {
	one := []byte{0x3F, 0xF0, 0, 0, 0, 0, 0, 0}
	two := []byte{0x40, 0, 0, 0, 0, 0, 0, 0}
	none := []byte{0x7F, 0xF8, 0, 0, 0, 0, 0, 1}
	zero, less := make([]byte, 8), []byte{0x80, 0, 0, 0, 0, 0, 0, 0}
	list := []struct {
		m    api.Msg
		want []byte
	}{
		{api.Msg{Kind: api.AskRead, Page: 5, Obj: 3}, []byte{0, 0, 0, 0, 0, 5, 0, 0, 3, 0, 0, 0, 0, 0, 0, 0, 0, 0, 0, 0, 0, 0, 0, 0}},
		{api.Msg{Kind: api.AskWrite, Page: 1, Obj: 2}, []byte{0, 0, 1, 0, 0, 1, 0, 0, 2, 0, 0, 0, 0, 0, 0, 0, 0, 0, 0, 0, 0, 0, 0, 0}},
		{api.Msg{Kind: api.Commit, Txn: 66051}, []byte{0, 0, 2, 0, 0, 0, 0, 0, 0, 1, 2, 3, 0, 0, 0, 0, 0, 0, 0, 0, 0, 0, 0, 0}},
		{api.Msg{Kind: api.Commit, Txn: maxNum, Puts: []api.Put{put(4, 1, complex(1, math.NaN())), put(5, 0, complex(minus, 2))}},
			slices.Concat([]byte{0, 0, 2, 0, 0, 0, 0, 0, 0, 255, 255, 255, 0, 0, 0, 0, 0, 0, 0, 0, 0, 0, 0, 2},
				[]byte{0, 0, 4, 0, 0, 1}, one, none, []byte{0, 0, 5, 0, 0, 0}, less, two)},
		{api.Msg{Kind: api.Release, Page: 2, Copy: 15, Own: 9}, []byte{0, 0, 3, 0, 0, 2, 0, 0, 0, 0, 0, 0, 0, 0, 15, 0, 0, 9, 0, 0, 0, 0, 0, 0}},
		{api.Msg{Kind: api.Busy, Page: 4, Obj: 1, Write: true}, []byte{0, 0, 4, 0, 0, 4, 0, 0, 1, 0, 0, 0, 0, 0, 0, 0, 0, 0, 0, 0, 1, 0, 0, 0}},
		{api.Msg{Kind: api.Grant, Page: 3, Copy: 7, Own: 8, Values: [objs]complex128{complex(otherNaN, 1), 2i, complex(minus, minus), 1}},
			slices.Concat([]byte{0, 0, 5, 0, 0, 3, 0, 0, 0, 0, 0, 0, 0, 0, 7, 0, 0, 8, 0, 0, 0, 0, 0, 0},
				none, one, zero, two, less, less, one, zero)},
		{api.Msg{Kind: api.Call, Page: 5, Obj: 2}, []byte{0, 0, 6, 0, 0, 5, 0, 0, 2, 0, 0, 0, 0, 0, 0, 0, 0, 0, 0, 0, 0, 0, 0, 0}},
		{api.Msg{Kind: api.Done, Txn: 256}, []byte{0, 0, 7, 0, 0, 0, 0, 0, 0, 0, 1, 0, 0, 0, 0, 0, 0, 0, 0, 0, 0, 0, 0, 0}},
		{api.Msg{Kind: api.Fail, Txn: 1, Copy: 999}, []byte{0, 0, 8, 0, 0, 0, 0, 0, 0, 0, 0, 1, 0, 3, 231, 0, 0, 0, 0, 0, 0, 0, 0, 0}},
	}
	for _, l := range list {
		checkBytes(t, l.m, l.want)
		checkRead(t, l.want, l.m)
	}
}

// P10.2: messages of all kinds with each part at its edges, there and back, and how many bytes they are.
func TestBytesAndRead(t *testing.T) {
	for _, m := range samples() {
		checkBytes(t, m, form(m))
		checkRead(t, form(m), m)
		want := 24 + 22*len(m.Puts)
		if m.Kind == api.Grant {
			want += 64
		}
		if b, _ := msg.Bytes(m); len(b) != want {
			t.Errorf("Bytes of %s are %d", told(m), len(b))
		}
	}
	for many := range mostPuts + 1 {
		checkBytes(t, commit(firstPuts(many)...), form(commit(firstPuts(many)...)))
		checkRead(t, form(commit(firstPuts(many)...)), commit(firstPuts(many)...))
	}
	checkBytes(t, commit([]api.Put{}...), form(commit()))
}

// P10.2 Bytes: messages have the same bytes where they are the same, and nowhere else.
func TestBytesOfOtherMessages(t *testing.T) {
	all := samples()
	for _, a := range all {
		for _, b := range all {
			x, _ := msg.Bytes(a)
			y, _ := msg.Bytes(b)
			if bytes.Equal(x, y) != msg.Same(a, b) {
				t.Errorf("%s and %s: bytes %x and %x", told(a), told(b), x, y)
			}
		}
	}
}

// P10.2 Bytes: ErrMsg and none of what isn't RIGHT.
func TestBytesOfWhatCannotBe(t *testing.T) {
	wrong := []api.Msg{
		{Kind: -1}, {Kind: 9}, {Kind: math.MinInt}, {Kind: math.MaxInt}, {Kind: maxNum + 1}, {Page: 6}, {Page: -1}, {Obj: 4}, {Txn: 1}, {Write: true},
		{Kind: api.Commit, Txn: -1}, {Kind: api.Commit, Txn: maxNum + 1}, commit(put(6, 0, 0)), commit(put(0, 4, 0)), commit(put(0, -1, 0)),
		commit(firstPuts(25)...), commit(put(1, 0, 0), put(0, 0, 0)), commit(put(1, 1, 0), put(1, 1, 0)), {Kind: api.Fail}, {Kind: api.Fail, Copy: 1000},
		{Kind: api.Release, Copy: 16}, {Kind: api.Grant, Own: 16}, {Kind: api.Grant, Copy: -1}, {Kind: api.Call, Values: [objs]complex128{3: complex(0, minus)}},
		{Kind: api.Done, Values: [objs]complex128{complex(math.NaN(), 0)}}, {Kind: api.Grant, Puts: firstPuts(1)}, {Kind: 1 << 32}, {Page: 1 << 32}, {Kind: api.Done, Txn: 1 << 32},
	}
	for _, m := range wrong {
		if b, e := msg.Bytes(m); e != api.ErrMsg || len(b) != 0 {
			t.Errorf("Bytes of %s: %x, %d", told(m), b, e)
		}
	}
}

// P10.2 Read: nothing, fewer bytes and more, ahead and behind.
func TestReadOfOtherSizes(t *testing.T) {
	checkNoMsg(t, nil)
	checkNoMsg(t, []byte{})
	checkNoMsg(t, make([]byte, 0, 100))
	for _, m := range samples() {
		b := form(m)
		for size := range len(b) {
			checkNoMsg(t, b[:size])
			checkNoMsg(t, b[:size:size])
		}
		checkNoMsg(t, b[1:])
		for _, more := range []byte{0, 1, 255} {
			checkNoMsg(t, append(bytes.Clone(b), more))
		}
		checkNoMsg(t, append(bytes.Clone(b), make([]byte, 16)...))
		checkNoMsg(t, append(bytes.Clone(b), make([]byte, 22)...))
		checkNoMsg(t, append(bytes.Clone(b), b...))
	}
	checkNoMsg(t, make([]byte, 23))
	checkNoMsg(t, make([]byte, 25))
	checkNoMsg(t, make([]byte, 1000))
	checkNoMsg(t, bytes.Repeat([]byte{255}, 600))
	checkNoMsg(t, make([]byte, 1<<20))
}

// P10.2 Read: each byte turned in all ways that turn one bit, some and all.
func TestReadOfTurnedBytes(t *testing.T) {
	for _, m := range samples() {
		b := form(m)
		for k := range b {
			for _, turn := range []byte{1, 2, 3, 4, 8, 16, 32, 64, 128, 7, 15, 255} {
				b[k] ^= turn
				checkReadBeside(t, b)
				b[k] ^= turn
			}
		}
	}
}

// P10.2 Read: each number of the head is another one, in all kinds.
func TestReadOfOtherNumbers(t *testing.T) {
	for kind := range allKinds {
		b := form(ordinary(kind))
		for at := 0; at < 24; at += 3 {
			for _, n := range []int{0, 1, 2, 3, 4, 5, 6, 7, 8, 9, 15, 16, 24, 25, 255, 256, 998, 999, 1000, 65535, 65536, maxNum} {
				checkReadBeside(t, slices.Concat(b[:at], num(n), b[at+3:]))
			}
		}
	}
}

// P10.2 Read: heads that no message has, written out.
func TestReadOfHeadsThatCannotBe(t *testing.T) {
	heads := [][]byte{
		head(9, 0, 0, 0, 0, 0, 0, 0), head(maxNum, 0, 0, 0, 0, 0, 0, 0), head(256, 0, 0, 0, 0, 0, 0, 0),
		head(0, 6, 0, 0, 0, 0, 0, 0), head(0, 0, 4, 0, 0, 0, 0, 0), head(0, 0, 0, 1, 0, 0, 0, 0), head(0, 0, 0, 0, 1, 0, 0, 0),
		head(0, 0, 0, 0, 0, 1, 0, 0), head(0, 0, 0, 0, 0, 0, 1, 0), head(0, 0, 0, 0, 0, 0, 2, 0), head(0, 0, 0, 0, 0, 0, 0, 1),
		head(2, 1, 0, 0, 0, 0, 0, 0), head(2, 0, 1, 0, 0, 0, 0, 0), head(2, 0, 0, 0, 1, 0, 0, 0), head(2, 0, 0, 0, 0, 0, 1, 0),
		head(3, 0, 1, 0, 0, 0, 0, 0), head(3, 0, 0, 0, 16, 0, 0, 0), head(3, 0, 0, 0, 0, 16, 0, 0),
		head(4, 0, 0, 0, 0, 0, 2, 0), head(4, 0, 0, 0, 0, 0, 256, 0), head(6, 0, 0, 0, 0, 0, 2, 0), head(6, 0, 0, 0, 0, 0, maxNum, 0), head(6, 0, 0, 0, 0, 0, 65536, 0),
		head(7, 0, 0, 1, 1, 0, 0, 0), head(8, 0, 0, 1, 0, 0, 0, 0), head(8, 0, 0, 1, 1000, 0, 0, 0), head(8, 0, 0, 1, 1, 1, 0, 0),
	}
	for _, b := range heads {
		checkNoMsg(t, b)
		checkNoMsg(t, append(bytes.Clone(b), make([]byte, 64)...))
	}
}

// P10.2 Read: counts of Puts that aren't theirs, with the Puts of all that are there.
func TestReadOfOtherCounts(t *testing.T) {
	for many := range mostPuts + 3 {
		puts := form(commit(firstPuts(many)...))[24:]
		for _, count := range []int{0, 1, 2, 3, 10, 22, 23, 24, 25, 26, 27, 256, 65536, maxNum} {
			b := append(head(2, 0, 0, 9, 0, 0, 0, count), puts...)
			if many == count && many <= mostPuts {
				checkRead(t, b, commit(firstPuts(many)...))
			} else {
				checkNoMsg(t, b)
			}
		}
	}
	checkNoMsg(t, append(head(2, 0, 0, 9, 0, 0, 0, 1000000), make([]byte, 22000000)...))
	// Puts of kinds that have none.
	for _, kind := range []int{0, 1, 3, 4, 5, 6, 7, 8, 9} {
		for many := 1; many <= mostPuts+1; many++ {
			m := api.Msg{Kind: kind, Puts: firstPuts(many)}
			if kind == api.Fail {
				m.Copy = 1
			}
			checkNoMsg(t, form(m))
		}
	}
}

// P10.2 Read: Puts that can't be.
func TestReadOfPutsThatCannotBe(t *testing.T) {
	for _, puts := range [][]api.Put{
		{put(6, 0, 1)}, {put(0, 4, 1)}, {put(256, 0, 1)}, {put(0, 65536, 1)}, {put(maxNum, maxNum, 1)}, {put(1, 0, 1), put(0, 3, 1)},
		{put(0, 1, 1), put(0, 0, 1)}, {put(3, 2, 1), put(3, 2, 1)}, {put(3, 2, 1), put(3, 2, 5)}, firstPuts(25), append(firstPuts(23), put(5, 2, 1)),
	} {
		checkNoMsg(t, form(commit(puts...)))
	}
	for _, page := range []int{0, 1, 5, 6, 7, maxNum} {
		for _, obj := range []int{0, 1, 3, 4, 7, maxNum} {
			m := commit(put(page, obj, 1i))
			if page <= 5 && obj <= 3 {
				checkRead(t, form(m), m)
			} else {
				checkNoMsg(t, form(m))
			}
		}
	}
}

// P10.2 Read: what is not a number in another form than layer 2 writes, in each part of each Value and of each Put.
func TestReadOfOtherForms(t *testing.T) {
	grant, puts := form(ordinary(api.Grant)), form(commit(firstPuts(4)...))
	for _, bits := range []uint64{0x7FF8000000000000, 0x7FF8000000000002, 0x7FF0000000000001, 0x7FFFFFFFFFFFFFFF, 0xFFF8000000000001, 0xFFF8000000000000, 0xFFFFFFFFFFFFFFFF} {
		for at := 24; at < len(grant); at += 8 {
			checkNoMsg(t, slices.Concat(grant[:at], eight(bits), grant[at+8:]))
		}
		for at := 30; at < len(puts); at += 22 {
			checkNoMsg(t, slices.Concat(puts[:at], eight(bits), puts[at+8:]))
			checkNoMsg(t, slices.Concat(puts[:at+8], eight(bits), puts[at+16:]))
		}
	}
	for at := 24; at < len(grant); at += 8 {
		m := ordinary(api.Grant)
		c := &m.Values[(at-24)/16]
		if (at-24)%16 == 0 {
			*c = complex(math.NaN(), imag(*c))
		} else {
			*c = complex(real(*c), math.NaN())
		}
		checkRead(t, slices.Concat(grant[:at], eight(0x7FF8000000000001), grant[at+8:]), m)
	}
}

// noise is a row of numbers that hangs on where it begins alone.
type noise uint64

func (n *noise) below(many int) int {
	*n ^= *n << 13
	*n ^= *n >> 7
	*n ^= *n << 17
	return int(uint64(*n) % uint64(many))
}

func (n *noise) value() complex128 {
	return complex(floats[n.below(len(floats))], floats[n.below(len(floats))])
}

// anyMsg is a message that mostly can be.
func anyMsg(n *noise) api.Msg {
	m := ordinary(n.below(allKinds))
	if m.Kind == api.Commit {
		m.Puts = slices.DeleteFunc(firstPuts(mostPuts), func(api.Put) bool { return n.below(4) > 0 })
		for k := range m.Puts {
			m.Puts[k].Value = n.value()
		}
	}
	if m.Kind == api.Grant {
		m.Values[n.below(objs)] = n.value()
	}
	switch n.below(12) {
	case 0:
		m.Kind = n.below(11)
	case 1:
		m.Page = n.below(8)
	case 2:
		m.Obj = n.below(6)
	case 3:
		m.Txn = n.below(maxNum + 1)
	case 4:
		m.Copy = n.below(20)
	case 5:
		m.Own = n.below(20)
	case 6:
		m.Write = !m.Write
	case 7:
		m.Puts = append(m.Puts, put(n.below(7), n.below(5), n.value()))
	case 8:
		m.Values[n.below(objs)] = n.value()
	}
	return m
}

// P10.1 and P10.2: messages of all kinds, and their bytes with all that may be wrong with them, against what the tests work out.
func TestMessagesOfAllKinds(t *testing.T) {
	n := noise(88172645463325252)
	for range 60000 {
		m := anyMsg(&n)
		if msg.Right(m) != rightBeside(m) {
			t.Fatalf("Right of %s: %t", told(m), msg.Right(m))
		}
		b := form(m)
		if rightBeside(m) {
			checkBytes(t, m, b)
			checkRead(t, b, m)
		}
		switch n.below(5) {
		case 0:
			b = b[:n.below(len(b)+1)]
		case 1:
			b[n.below(len(b))] ^= byte(1 << n.below(8))
		case 2:
			b[3*n.below(8)+2] = byte(n.below(26))
		case 3:
			b = append(b, make([]byte, n.below(70))...)
		}
		checkReadBeside(t, b)
		if t.Failed() {
			return
		}
	}
}
