package past_test

import (
	"slices"
	"testing"

	"cloakroom/api"
	"cloakroom/house"
	"cloakroom/past"
)

const (
	clients = 4
	lanes   = 8
)

// open tells whether a client has a transaction that is open.
func open(h *house.House, client int) bool {
	return slices.ContainsFunc(h.Deals(), func(d api.Deal) bool { return d.Client == client && d.State == api.DealOpen })
}

// delivery is that of the first frame of a lane that has one, and seldom of another one.
func (n *noise) delivery(h *house.House) api.Step {
	s := api.Step{Kind: api.StepDeliver, Lane: n.below(lanes)}
	for range lanes {
		if h.Len(s.Lane) > 0 {
			break
		}
		s.Lane = (s.Lane + 1) % lanes
	}
	if n.below(10) == 0 {
		s.N = n.below(1 + h.Len(s.Lane))
	}
	return s
}

// fault is what doesn't happen in a calm world.
func (n *noise) fault(h *house.House) api.Step {
	s := n.delivery(h)
	s.Kind = n.of(api.StepDrop, api.StepDouble, api.StepSpoil, api.StepLate, api.StepCheckpoint)
	if n.below(8) == 0 {
		s.Kind = n.of(api.StepCrash, api.StepFall)
	}
	switch s.Kind {
	case api.StepSpoil:
		s.At, s.Mask = n.below(160), uint16(1+n.below(100))
	case api.StepCrash:
		s.Client = n.below(clients)
	case api.StepFall:
		s.N, s.At = n.below(2)*n.below(300), n.below(64)
	}
	return s
}

// step is one that does something in most cases. The rougher, the more is lost, falls or crashes.
func (n *noise) step(h *house.House, many, rough int) api.Step {
	c := n.below(many)
	switch at := n.below(100); {
	case at < rough:
		return n.fault(h)
	case at < 50:
		return n.delivery(h)
	case at < 52:
		return api.Step{Kind: n.of(api.StepHostTick, api.StepSync)}
	case !h.Up(c):
		return api.Step{Kind: api.StepStart, Client: c}
	case !h.HostUp():
		return api.Step{Kind: api.StepRise}
	case h.Waits(c) && at < 60:
		return api.Step{Kind: api.StepSync}
	case (!h.Live(c) || h.Waits(c)) && at < 95:
		// A Tick now and then: more of them than are delivered fill the lanes.
		return n.delivery(h)
	case !h.Live(c) || h.Waits(c):
		return api.Step{Kind: api.StepTick, Client: c}
	}
	o := api.Op{Kind: n.of(api.OpRead, api.OpWrite, api.OpCommit), Page: n.below(3), Obj: n.below(objs), Value: n.value()}
	if !open(h, c) {
		o.Kind = api.OpBegin
	} else if n.below(20) == 0 {
		o.Kind = api.OpAbort
	}
	return api.Step{Kind: api.StepDo, Client: c, Op: o}
}

// checkHouse: what a house leads to is Serial, Told and in Order, and its log leads to its pages.
func checkHouse(t *testing.T, h *house.House) {
	t.Helper()
	l, log := h.Deals(), h.Logged()
	if !past.Serial(l, log) || !past.Told(l, log) || !past.Order(l, log) {
		t.Fatalf("Serial %t, Told %t, Order %t of %+v with the log %+v", past.Serial(l, log), past.Told(l, log), past.Order(l, log), l, log)
	}
	list, e := h.Map()
	if h.HostUp() != (e == api.OK) {
		t.Fatalf("Map: %d", e)
	}
	if replayed := past.Replay(log); e == api.OK && !slices.EqualFunc(replayed, list, samePage) {
		t.Fatalf("Replay of %+v is %+v, and the pages are %+v", log, replayed, list)
	}
}

// P22.1 to P22.3: histories that houses lead to, calm ones and rough ones: they are Serial, Told and in Order; with one thing turned
// they are held against plain answers.
func TestHouses(t *testing.T) {
	t.Parallel()
	n := noise(362436069)
	var seen told
	var states [4]int
	logged := 0
	for round := range 120 {
		many := 1 + round%clients
		h, e := house.New(api.Config{Clients: many, Frames: 1 + round%6, Many: 2 + round%3, Patience: 30, Room: 20000})
		if e != api.OK {
			t.Fatal(e)
		}
		for k := range 1000 {
			h.Step(n.step(h, many, round%8))
			if k%50 == 0 {
				checkHouse(t, h)
			}
		}
		checkHouse(t, h)
		l, log := h.Deals(), h.Logged()
		for range 20 {
			other, otherLog := n.turned(l, log)
			checkBeside(t, other, otherLog, &seen)
		}
		for _, d := range l {
			states[d.State]++
		}
		logged += len(log)
	}
	seen.check(t, 50)
	if slices.Min(states[:]) < 20 || states[api.DealDone] < 200 || logged < 200 {
		t.Errorf("too little of some kind: %v, %d logged", states, logged)
	}
}

// asks asks a client one thing behind the other, each with all delivered behind it.
func asks(h *house.House, client int, list ...api.Op) {
	for _, o := range list {
		h.Step(api.Step{Kind: api.StepDo, Client: client, Op: o})
		for any := true; any; {
			any = false
			for lane := range lanes {
				any = h.Step(api.Step{Kind: api.StepDeliver, Lane: lane}) || any
			}
		}
	}
}

// P22.3: one that was told Done, one whose commit was cut off the log by a fall, and one that was logged but never told.
func TestHouseThatFalls(t *testing.T) {
	h, _ := house.New(api.Config{Clients: 1, Frames: 6, Many: 3, Patience: 5, Room: 2000})
	writes := func(v complex128) {
		h.Step(api.Step{Kind: api.StepTick})
		asks(h, 0, api.Op{Kind: api.OpBegin}, api.Op{Kind: api.OpRead, Page: 1, Obj: 2}, api.Op{Kind: api.OpWrite, Page: 1, Obj: 2, Value: v}, api.Op{Kind: api.OpCommit})
	}
	h.Step(api.Step{Kind: api.StepTick})
	asks(h, 0, api.Op{Kind: -1})
	writes(5)
	h.Step(api.Step{Kind: api.StepSync})
	asks(h, 0, api.Op{Kind: -1})
	for _, keep := range []int{0, 20000} {
		writes(6)
		h.Step(api.Step{Kind: api.StepFall, N: keep})
		checkHouse(t, h)
		h.Step(api.Step{Kind: api.StepRise})
		h.Step(api.Step{Kind: api.StepTick})
		asks(h, 0, api.Op{Kind: -1})
		checkHouse(t, h)
	}
	l, log := h.Deals(), h.Logged()
	if len(l) != 3 || l[0].State != api.DealDone || l[1].State != api.DealLost || l[2].State != api.DealLost || len(log) != 2 {
		t.Fatalf("%+v with the log %+v", l, log)
	}
	checkFind(t, l, log[0], 0)
	checkFind(t, l, log[1], 2)
	checkReplay(t, log, [pages]api.Page{1: {LSN: 2, Objs: [objs]complex128{2: 6}}})
	checkTold(t, l, log[1:], false)
	checkSerial(t, l, log[1:], false)
	checkOrder(t, l, []api.Batch{log[1], log[0]}, false)
}
