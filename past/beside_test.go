package past_test

import (
	"math"
	"slices"
	"testing"

	"cloakroom/api"
	"cloakroom/cnum"
	"cloakroom/past"
	"cloakroom/wal"
)

// plainFind goes from the end on, so that what is left is the first one.
func plainFind(l []api.Deal, b api.Batch) int {
	at := -1
	for k := len(l) - 1; k >= 0; k-- {
		if [3]int{l[k].Client, l[k].Epoch, l[k].Txn} == [3]int{b.Client, b.Epoch, b.Txn} {
			at = k
		}
	}
	return at
}

// plainPuts looks for the last write into each place.
func plainPuts(d api.Deal) []api.Put {
	var list []api.Put
	places(func(page, obj int) {
		for k := len(d.Deeds) - 1; k >= 0; k-- {
			if x := d.Deeds[k]; x.Write && x.Page == page && x.Obj == obj {
				list = append(list, put(page, obj, x.Value))
				return
			}
		}
	})
	return list
}

// plainReads looks from each read back for the write ahead of it.
func plainReads(d api.Deal, list []api.Page) bool {
	for k, x := range d.Deeds {
		if x.Write {
			continue
		}
		want := list[x.Page].Objs[x.Obj]
		for i := k - 1; i >= 0; i-- {
			if y := d.Deeds[i]; y.Write && y.Page == x.Page && y.Obj == x.Obj {
				want = y.Value
				break
			}
		}
		if !cnum.Same(want, x.Value) {
			return false
		}
	}
	return true
}

// plainReplay looks from the log's end back for the last Put of each object, and of each page.
func plainReplay(log []api.Batch) [pages]api.Page {
	var list [pages]api.Page
	places(func(page, obj int) {
		for k := len(log) - 1; k >= 0; k-- {
			for _, p := range log[k].Puts {
				if p.Page == page && p.Obj == obj {
					list[page].Objs[obj] = p.Value
					k = 0
				}
			}
		}
		for _, b := range log {
			for _, p := range b.Puts {
				if p.Page == page {
					list[page].LSN = b.LSN
				}
			}
		}
	})
	return list
}

// plainSerial makes the pages anew for each commit.
func plainSerial(l []api.Deal, log []api.Batch) bool {
	for k, b := range log {
		at := plainFind(l, b)
		if at < 0 || !slices.EqualFunc(plainPuts(l[at]), b.Puts, samePut) {
			return false
		}
		ahead := plainReplay(log[:k])
		if !plainReads(l[at], ahead[:]) {
			return false
		}
	}
	return true
}

// plainPlaces is where on the log the commits of each Deal are.
func plainPlaces(l []api.Deal, log []api.Batch) map[int][]int {
	at := map[int][]int{}
	for k, b := range log {
		deal := plainFind(l, b)
		at[deal] = append(at[deal], k)
	}
	return at
}

func plainTold(l []api.Deal, log []api.Batch) bool {
	at := plainPlaces(l, log)
	for k, d := range l {
		if len(at[k]) > 1 || d.State == 1 && len(at[k]) != 1 {
			return false
		}
	}
	return true
}

// plainOrder holds any two Deals that are on the log against each other: the last commit of the one, and the first one of the other.
func plainOrder(l []api.Deal, log []api.Batch) bool {
	at := plainPlaces(l, log)
	for k, d := range l {
		for i, other := range l {
			mine, others := at[k], at[i]
			if k == i || len(mine) == 0 || len(others) == 0 || d.State != 1 || d.Ended >= other.Began {
				continue
			}
			if slices.Max(mine) > slices.Min(others) {
				return false
			}
		}
	}
	return true
}

// told counts how often each call was true, and how often not.
type told struct{ serial, told, order, reads [2]int }

func count(of *[2]int, yes bool) {
	if yes {
		of[1]++
	} else {
		of[0]++
	}
}

// checkBeside holds all that a history and a log show against the plain answers.
func checkBeside(t *testing.T, l []api.Deal, log []api.Batch, seen *told) {
	t.Helper()
	serial, tells, order := plainSerial(l, log), plainTold(l, log), plainOrder(l, log)
	checkSerial(t, l, log, serial)
	checkTold(t, l, log, tells)
	checkOrder(t, l, log, order)
	want := plainReplay(log)
	checkReplay(t, log, want)
	for k, d := range l {
		checkFind(t, l, commit(d.Client, d.Epoch, d.Txn), plainFind(l, commit(d.Client, d.Epoch, d.Txn)))
		checkPuts(t, d, plainPuts(d)...)
		reads := plainReads(d, want[:])
		checkReads(t, l[k], want[:], reads)
		count(&seen.reads, reads)
	}
	for _, b := range log {
		checkFind(t, l, b, plainFind(l, b))
	}
	count(&seen.serial, serial)
	count(&seen.told, tells)
	count(&seen.order, order)
}

// noise is a row of numbers that hangs on where it begins alone.
type noise uint64

func (n *noise) below(many int) int {
	*n ^= *n << 13
	*n ^= *n >> 7
	*n ^= *n << 17
	return int(uint64(*n) % uint64(many))
}

func (n *noise) of(list ...int) int {
	return list[n.below(len(list))]
}

// value is one of few, mostly, so that many objects have the same.
func (n *noise) value() complex128 {
	switch n.below(12) {
	case 0:
		return complex(math.Float64frombits(0x7FF8000000000000+uint64(n.below(5))), 0)
	case 1:
		return complex(math.Copysign(0, -1), 0)
	case 2:
		return complex(math.Inf(1-2*n.below(2)), float64(n.below(2)))
	}
	return complex(float64(n.below(6)), float64(n.below(2)))
}

// deeds are right ones behind these values, of which the last ones of the Deal's writes are told with them.
func (n *noise) deeds(now [pages]api.Page) ([]api.Deed, [pages]api.Page) {
	var list []api.Deed
	for range n.below(7) {
		page, obj := n.below(3), n.below(objs)
		if n.below(8) == 0 {
			page = n.below(pages)
		}
		if n.below(2) == 0 {
			list = append(list, read(page, obj, now[page].Objs[obj]))
			continue
		}
		v := n.value()
		list = append(list, write(page, obj, v))
		now[page].Objs[obj] = v
	}
	return list, now
}

// history is one that is right: some Deals, one after the other on the log, while others ended without a commit.
func (n *noise) history(many int) ([]api.Deal, []api.Batch) {
	var l []api.Deal
	var log []api.Batch
	var now [pages]api.Page
	var txns [4]int
	for time := 10; len(l) < many; time += n.below(5) {
		client := n.below(4)
		txns[client]++
		d := api.Deal{Client: client, Epoch: 1 + txns[client]/5, Txn: txns[client], Began: time - n.below(10), Ended: time + n.below(10)}
		d.State = n.of(api.DealDone, api.DealDone, api.DealDone, api.DealLost, api.DealFailed, api.DealOpen)
		if d.State == api.DealOpen {
			d.Ended = -1
		}
		var after [pages]api.Page
		d.Deeds, after = n.deeds(now)
		if d.State == api.DealDone || n.below(3) == 0 {
			now = after
			log = append(log, api.Batch{LSN: len(log) + 1, Client: client, Epoch: d.Epoch, Txn: d.Txn, Puts: plainPuts(d)})
		} else if len(d.Deeds) > 0 && n.below(2) == 0 {
			d.Deeds[n.below(len(d.Deeds))].Value = n.value()
		}
		l = append(l, d)
	}
	slices.SortStableFunc(l, func(a, b api.Deal) int { return a.Began - b.Began })
	return l, log
}

// copies are a history and a log in memory of their own.
func copies(l []api.Deal, log []api.Batch) ([]api.Deal, []api.Batch) {
	l, log = slices.Clone(l), slices.Clone(log)
	for k := range l {
		l[k].Deeds = slices.Clone(l[k].Deeds)
	}
	for k := range log {
		log[k].Puts = slices.Clone(log[k].Puts)
	}
	return l, log
}

// turned are a history and a log with one thing turned that can be; nothing is where there is nothing to turn.
func (n *noise) turned(l []api.Deal, log []api.Batch) ([]api.Deal, []api.Batch) {
	l, log = copies(l, log)
	if len(l) == 0 || len(log) == 0 {
		return l, log
	}
	k, i := n.below(len(l)), n.below(len(log))
	switch n.below(5) {
	case 0:
		return n.otherDeal(l, k), log
	case 1:
		return l, n.otherLog(log, i)
	case 2:
		n.otherPuts(&log[i])
	default:
		// A Deed of a Deal that is on the log says more than one of another.
		if at := plainFind(l, log[i]); at >= 0 && n.below(4) > 0 {
			k = at
		}
		n.otherDeed(&l[k])
	}
	return l, log
}

func (n *noise) otherDeal(l []api.Deal, k int) []api.Deal {
	d, other := &l[k], l[n.below(len(l))]
	switch n.below(9) {
	case 0:
		d.Client = n.below(4)
	case 1:
		d.Epoch += n.of(-1, 1)
	case 2:
		d.Txn += n.of(-1, 1)
	case 3:
		d.State = n.below(4)
	case 4:
		d.Began = other.Began + n.of(-1, 0, 1)
	case 5:
		d.Ended = other.Began + n.of(-1, 0, 1)
	case 6:
		return slices.Delete(l, k, k+1)
	case 7:
		return slices.Insert(l, n.below(len(l)+1), *d)
	case 8:
		l[k], l[0] = l[0], l[k]
	}
	return l
}

func (n *noise) otherLog(log []api.Batch, i int) []api.Batch {
	b, at := log[i], n.below(len(log))
	switch n.below(8) {
	case 0:
		log[i].Client = n.below(4)
	case 1:
		log[i].Epoch++
	case 2:
		log[i].Txn++
	case 3:
		log[i].LSN = 1 + n.below(100)
	case 4:
		return slices.Delete(log, i, i+1)
	case 5:
		return slices.Insert(log, at, b)
	case 6:
		log[i], log[at] = log[at], log[i]
	case 7:
		return slices.Insert(slices.Delete(log, i, i+1), at, b)
	}
	return log
}

// otherPuts turns those of a commit; if it can't be then, they stay as they are.
func (n *noise) otherPuts(b *api.Batch) {
	list := slices.Clone(b.Puts)
	switch {
	case len(list) == 0 || n.below(4) == 0:
		list = append(list, put(n.below(pages), n.below(objs), n.value()))
	case n.below(4) == 0:
		list = slices.Delete(list, 0, 1)
	default:
		p := &list[n.below(len(list))]
		switch n.below(3) {
		case 0:
			p.Page = n.below(pages)
		case 1:
			p.Obj = n.below(objs)
		case 2:
			p.Value = n.value()
		}
	}
	if wal.Right(api.Batch{LSN: b.LSN, Client: b.Client, Epoch: b.Epoch, Txn: b.Txn, Puts: list}) {
		b.Puts = list
	}
}

func (n *noise) otherDeed(d *api.Deal) {
	if len(d.Deeds) == 0 {
		d.Deeds = append(d.Deeds, read(n.below(pages), n.below(objs), n.value()))
		return
	}
	k, at := n.below(len(d.Deeds)), n.below(len(d.Deeds))
	x := &d.Deeds[k]
	switch n.below(7) {
	case 0:
		x.Write = !x.Write
	case 1:
		x.Page = n.below(pages)
	case 2:
		x.Obj = n.below(objs)
	case 3:
		x.Value = n.value()
	case 4:
		d.Deeds = slices.Delete(d.Deeds, k, k+1)
	case 5:
		d.Deeds = slices.Insert(d.Deeds, at, *x)
	case 6:
		d.Deeds[k], d.Deeds[at] = d.Deeds[at], d.Deeds[k]
	}
}

func (s *told) check(t *testing.T, least int) {
	t.Helper()
	for _, both := range [][2]int{s.serial, s.told, s.order, s.reads} {
		if min(both[0], both[1]) < least {
			t.Errorf("too little of some kind: %+v", *s)
		}
	}
}

// P22.1 to P22.3: long histories that are right, and such with one thing turned, or several, held against plain answers.
func TestLongHistories(t *testing.T) {
	t.Parallel()
	n := noise(88172645463325252)
	var seen told
	for round := range 300 {
		l, log := n.history(1 + round%40)
		if !past.Serial(l, log) || !past.Told(l, log) || !past.Order(l, log) {
			t.Fatalf("%+v with the log %+v is right", l, log)
		}
		checkBeside(t, l, log, &seen)
		for range 20 {
			other, otherLog := n.turned(l, log)
			checkBeside(t, other, otherLog, &seen)
			other, otherLog = n.turned(n.turned(other, otherLog))
			checkBeside(t, other, otherLog, &seen)
		}
		if t.Failed() {
			return
		}
	}
	seen.check(t, 500)
}

// P22.3 Order: all times and states of three Deals that are few, with all logs of up to three commits, one of nobody among them.
func TestShortOrders(t *testing.T) {
	t.Parallel()
	var logs [][]api.Batch
	for number := range 5 * 5 * 5 {
		var log []api.Batch
		for _, who := range []int{number % 5, number / 5 % 5, number / 25} {
			if who < 4 {
				log = append(log, commit(who, 1, 1))
			}
		}
		logs = append(logs, log)
	}
	const ways = 3 * 3 * 2
	for number := range ways * ways * ways {
		var l []api.Deal
		for k, way := range []int{number % ways, number / ways % ways, number / ways / ways} {
			l = append(l, timed(k, 1, 1+way%2, way/2%3, way/6))
		}
		log := logs[number%len(logs)]
		checkOrder(t, l, log, plainOrder(l, log))
		log = logs[number*7%len(logs)]
		checkOrder(t, l, log, plainOrder(l, log))
		if t.Failed() {
			return
		}
	}
	for number := range 1000 {
		l := []api.Deal{timed(0, 1, 1, number%10, number/10%10), timed(1, 1, 1+number%2, number/100, 3), timed(2, 1, 1, 5, 4)}
		for _, log := range logs {
			checkOrder(t, l, log, plainOrder(l, log))
		}
	}
}

// shortDeeds are all rows of up to two out of few.
func shortDeeds() [][]api.Deed {
	few := []api.Deed{read(1, 1, 0), read(1, 1, 1), read(1, 1, 2), write(1, 1, 1), write(1, 1, 2), read(1, 2, 0), read(1, 2, 1), write(1, 2, 1)}
	all := [][]api.Deed{nil}
	for _, x := range few {
		all = append(all, []api.Deed{x})
		for _, y := range few {
			all = append(all, []api.Deed{x, y})
		}
	}
	return all
}

// P22.1, P22.3 Serial: all that two Deals may have done in one step or two, with their commits in any order.
func TestShortSerials(t *testing.T) {
	t.Parallel()
	var seen told
	for _, first := range shortDeeds() {
		for _, second := range shortDeeds() {
			l := []api.Deal{deal(0, 1, 1, first...), deal(1, 1, 1, second...)}
			a, b := commit(0, 1, 1, plainPuts(l[0])...), commit(1, 1, 1, plainPuts(l[1])...)
			for _, log := range [][]api.Batch{{a}, {b}, {a, b}, {b, a}, {a, b, a}, {b, b}} {
				want := plainSerial(l, log)
				checkSerial(t, l, log, want)
				count(&seen.serial, want)
			}
		}
	}
	if min(seen.serial[0], seen.serial[1]) < 3000 {
		t.Errorf("too little of some kind: %v", seen.serial)
	}
}
