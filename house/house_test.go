package house_test

import (
	"fmt"
	"math"
	"testing"

	"cloakroom/api"
	"cloakroom/house"
)

const (
	clients = 4
	pages   = 6
	objs    = 4
	lanes   = 8
	all     = 15
	// most is how many frames a lane has room for.
	most = 200
)

// usual is the world of most tests.
func usual(clients int) api.Config {
	return api.Config{Clients: clients, Frames: 6, Many: 3, Patience: 5, Room: 3000}
}

func begin() api.Op {
	return api.Op{Kind: api.OpBegin}
}

func read(page, obj int) api.Op {
	return api.Op{Kind: api.OpRead, Page: page, Obj: obj}
}

func write(page, obj int, v complex128) api.Op {
	return api.Op{Kind: api.OpWrite, Page: page, Obj: obj, Value: v}
}

func commit() api.Op {
	return api.Op{Kind: api.OpCommit}
}

func abort() api.Op {
	return api.Op{Kind: api.OpAbort}
}

func do(client int, o api.Op) api.Step {
	return api.Step{Kind: api.StepDo, Client: client, Op: o}
}

func tick(client int) api.Step {
	return api.Step{Kind: api.StepTick, Client: client}
}

func hostTick() api.Step {
	return api.Step{Kind: api.StepHostTick}
}

func deliver(lane, n int) api.Step {
	return api.Step{Kind: api.StepDeliver, Lane: lane, N: n}
}

func drop(lane, n int) api.Step {
	return api.Step{Kind: api.StepDrop, Lane: lane, N: n}
}

func double(lane, n int) api.Step {
	return api.Step{Kind: api.StepDouble, Lane: lane, N: n}
}

func spoil(lane, n, at int, mask uint16) api.Step {
	return api.Step{Kind: api.StepSpoil, Lane: lane, N: n, At: at, Mask: mask}
}

func late(lane, n int) api.Step {
	return api.Step{Kind: api.StepLate, Lane: lane, N: n}
}

func crash(client int) api.Step {
	return api.Step{Kind: api.StepCrash, Client: client}
}

func start(client int) api.Step {
	return api.Step{Kind: api.StepStart, Client: client}
}

func fall(keep, mask int) api.Step {
	return api.Step{Kind: api.StepFall, N: keep, At: mask}
}

func rise() api.Step {
	return api.Step{Kind: api.StepRise}
}

func syncs() api.Step {
	return api.Step{Kind: api.StepSync}
}

func checkpoint() api.Step {
	return api.Step{Kind: api.StepCheckpoint}
}

func room(n int) api.Step {
	return api.Step{Kind: api.StepRoom, N: n}
}

// up is the lane from a client to the server, down the one back.
func up(client int) int {
	return 2 * client
}

func down(client int) int {
	return 2*client + 1
}

// anyHouse is a house, or a plain one.
type anyHouse interface {
	Step(s api.Step) bool
	Time() int
	Len(lane int) int
	Up(client int) bool
	Waits(client int) bool
	Epoch(client int) int
	HostUp() bool
	Boot() int
	Live(client int) bool
	Copies(client, page int) int
	Own(client, page int) int
	Map() ([]api.Page, api.Errno)
	Deals() []api.Deal
	Logged() []api.Batch
}

// shown is all that is told of a house by calls that change nothing, but for the time.
type shown struct {
	many            [lanes]int
	up, waits, live [clients]bool
	epoch           [clients]int
	hostUp          bool
	boot            int
	copies, own     [clients][pages]int
	deals, logged   string
}

func show(h anyHouse) shown {
	s := shown{hostUp: h.HostUp(), boot: h.Boot(), deals: fmt.Sprintf("%+v", h.Deals()), logged: fmt.Sprintf("%+v", h.Logged())}
	for lane := range lanes {
		s.many[lane] = h.Len(lane)
	}
	for c := range clients {
		s.up[c], s.waits[c], s.live[c], s.epoch[c] = h.Up(c), h.Waits(c), h.Live(c), h.Epoch(c)
		for page := range pages {
			s.copies[c][page], s.own[c][page] = h.Copies(c, page), h.Own(c, page)
		}
	}
	return s
}

// world is a house as the tests play it.
type world struct {
	t *testing.T
	h *house.House
}

func newWorld(t *testing.T, c api.Config) *world {
	t.Helper()
	h, e := house.New(c)
	if e != api.OK || h == nil {
		t.Fatalf("New %+v: %d", c, e)
	}
	return &world{t, h}
}

// met is a world in which all clients have their sessions, with nothing on its way.
func met(t *testing.T, c api.Config) *world {
	t.Helper()
	w := newWorld(t, c)
	for n := range c.Clients {
		w.meets(n)
	}
	return w
}

// meets gives a client its session.
func (w *world) meets(client int) {
	w.t.Helper()
	w.yes(tick(client))
	w.calm()
	if !w.h.Live(client) {
		w.t.Errorf("client %d has no session", client)
	}
}

func (w *world) step(s api.Step, want bool) {
	w.t.Helper()
	time := w.h.Time()
	if did := w.h.Step(s); did != want {
		w.t.Errorf("%+v: %t", s, did)
	}
	if w.h.Time() != time+1 {
		w.t.Errorf("%+v: the time was %d and is %d", s, time, w.h.Time())
	}
}

// yes makes steps that do something.
func (w *world) yes(list ...api.Step) {
	w.t.Helper()
	for _, s := range list {
		w.step(s, true)
	}
}

// no makes steps that do nothing, so that nothing else is told behind them.
func (w *world) no(list ...api.Step) {
	w.t.Helper()
	for _, s := range list {
		before := show(w.h)
		w.step(s, false)
		if now := show(w.h); now != before {
			w.t.Errorf("%+v does nothing, and behind it is\n%+v, not\n%+v", s, now, before)
		}
	}
}

// calm delivers all that is on its way, and what is sent for it.
func (w *world) calm() {
	w.t.Helper()
	for range 1000 {
		many := 0
		for lane := range lanes {
			many += w.h.Len(lane)
			if w.h.Len(lane) > 0 {
				w.yes(deliver(lane, 0))
			}
		}
		if many == 0 {
			return
		}
	}
	w.t.Fatal("it is never calm")
}

// does asks a client one thing behind the other, each with all delivered behind it.
func (w *world) does(client int, list ...api.Op) {
	w.t.Helper()
	for _, o := range list {
		w.yes(do(client, o))
		w.calm()
	}
}

// synced makes what is committed safe, and told.
func (w *world) synced() {
	w.t.Helper()
	w.yes(syncs())
	w.calm()
}

// checkLens tells how many are on which lanes: all others have none.
func (w *world) checkLens(want map[int]int) {
	w.t.Helper()
	for lane := range lanes {
		if got := w.h.Len(lane); got != want[lane] {
			w.t.Errorf("lane %d has %d, not %d", lane, got, want[lane])
		}
	}
}

// checkWaits tells which clients wait: all others don't.
func (w *world) checkWaits(want ...int) {
	w.t.Helper()
	var list [clients]bool
	for _, c := range want {
		list[c] = true
	}
	for c := range clients {
		if w.h.Waits(c) != list[c] {
			w.t.Errorf("client %d waits: %t", c, w.h.Waits(c))
		}
	}
}

func (w *world) checkHas(client, page, copies, own int) {
	w.t.Helper()
	if c, o := w.h.Copies(client, page), w.h.Own(client, page); c != copies || o != own {
		w.t.Errorf("client %d has %d of page %d and owns %d, not %d and %d", client, c, page, o, copies, own)
	}
}

func (w *world) checkMap(want [pages]api.Page) {
	w.t.Helper()
	list, e := w.h.Map()
	if e != api.OK || fmt.Sprintf("%+v", list) != fmt.Sprintf("%+v", want) {
		w.t.Errorf("Map: %+v %d, not %+v", list, e, want)
	}
}

// checkValue looks at one object.
func (w *world) checkValue(page, obj int, want complex128) {
	w.t.Helper()
	list, e := w.h.Map()
	if e != api.OK || len(list) != pages || list[page].Objs[obj] != want {
		w.t.Errorf("Map: %+v %d, not with %v", list, e, want)
	}
}

func (w *world) checkServer(hostUp bool, boot int) {
	w.t.Helper()
	if w.h.HostUp() != hostUp || w.h.Boot() != boot {
		w.t.Errorf("the server is up: %t, boot %d, not %t %d", w.h.HostUp(), w.h.Boot(), hostUp, boot)
	}
}

func (w *world) checkClient(client int, runs bool, epoch int, live bool) {
	w.t.Helper()
	if w.h.Up(client) != runs || w.h.Epoch(client) != epoch || w.h.Live(client) != live {
		w.t.Errorf("client %d runs: %t, epoch %d, live: %t, not %t %d %t", client, w.h.Up(client), w.h.Epoch(client), w.h.Live(client), runs, epoch, live)
	}
}

// wrong are numbers that can't be where many are there.
func wrong(many int) []int {
	return []int{math.MinInt, -1, many, many + 1, math.MaxInt}
}

// P21.1: each number of a Config at its edges and beyond them.
func TestNewNumbers(t *testing.T) {
	bounds := []struct {
		least, most int
		of          func(c *api.Config) *int
	}{
		{1, 4, func(c *api.Config) *int { return &c.Clients }},
		{1, 6, func(c *api.Config) *int { return &c.Frames }},
		{1, 6, func(c *api.Config) *int { return &c.Many }},
		{1, 100, func(c *api.Config) *int { return &c.Patience }},
		{0, 20000, func(c *api.Config) *int { return &c.Room }},
	}
	for k, b := range bounds {
		for _, n := range []int{math.MinInt, b.least - 1, b.least, b.least + 1, b.most - 1, b.most, b.most + 1, math.MaxInt} {
			c := usual(2)
			*b.of(&c) = n
			h, e := house.New(c)
			if n >= b.least && n <= b.most {
				if e != api.OK || h == nil {
					t.Errorf("number %d of a Config is %d: %d", k, n, e)
				}
			} else if e != api.ErrHouse || h != nil {
				t.Errorf("number %d of a Config is %d: %d, and a house: %t", k, n, e, h != nil)
			}
		}
	}
	if h, e := house.New(api.Config{}); e != api.ErrHouse || h != nil {
		t.Errorf("a zero Config: %d", e)
	}
	if api.ErrHouse != 211 {
		t.Errorf("ErrHouse is %d", api.ErrHouse)
	}
	newWorld(t, api.Config{Clients: 1, Frames: 1, Many: 1, Patience: 1})
	newWorld(t, api.Config{Clients: 4, Frames: 6, Many: 6, Patience: 100, Room: 20000})
}

// P21.1, P21.5: what is told of a new world.
func TestNew(t *testing.T) {
	for many := 1; many <= clients; many++ {
		w := newWorld(t, usual(many))
		for c := range clients {
			epoch := 0
			if c < many {
				epoch = 1
			}
			w.checkClient(c, c < many, epoch, false)
			for page := range pages {
				w.checkHas(c, page, 0, 0)
			}
		}
		w.checkServer(true, 1)
		w.checkWaits()
		w.checkLens(nil)
		if w.h.Time() != 0 || len(w.h.Deals()) > 0 || len(w.h.Logged()) > 0 {
			t.Errorf("the time is %d, and there are %v and %v", w.h.Time(), w.h.Deals(), w.h.Logged())
		}
		w.checkMap([pages]api.Page{})
	}
}

// P21.1: the clients have room for Many pages.
func TestMany(t *testing.T) {
	for many := 1; many <= pages; many++ {
		c := usual(2)
		c.Many = many
		w := met(t, c)
		for page := range pages {
			w.does(1, begin(), read(page, 0), abort())
		}
		for page := range pages {
			if there := w.h.Copies(1, page) != 0; there != (page >= pages-many) {
				t.Errorf("with room for %d page %d is there: %t", many, page, there)
			}
		}
	}
}

// P21.1: a Host has that Patience, the first one and each one behind it.
func TestPatience(t *testing.T) {
	for _, patience := range []int{1, 2, 7, 100} {
		c := usual(1)
		c.Patience = patience
		w := met(t, c)
		for boot := 1; boot <= 2; boot++ {
			for range patience {
				w.yes(hostTick())
			}
			w.checkClient(0, true, boot, true)
			w.yes(hostTick())
			w.checkClient(0, true, boot, false)
			w.yes(fall(0, 0), rise(), tick(0))
			w.calm()
		}
	}
}

// P21.1: a Store has so many Frames, the first one and each one behind it. With fewer frames than a commit has pages some are
// written for others, and the log is forced for that: no crash takes it back.
func TestFrames(t *testing.T) {
	for frames := 1; frames <= pages; frames++ {
		c := usual(1)
		c.Frames, c.Many = frames, pages
		w := met(t, c)
		kept := 0
		for round := range 2 * pages {
			many := 1 + round%pages
			w.does(0, begin())
			for page := range many {
				w.does(0, write(page, 0, 1))
			}
			w.does(0, commit())
			if many > frames {
				kept++
			}
			w.yes(fall(0, 0), rise())
			if list := w.h.Logged(); len(list) != kept {
				t.Errorf("with %d frames and a commit of %d pages %d are there, not %d", frames, many, len(list), kept)
			}
			w.meets(0)
		}
	}
}

// P21.1: the tape has that Room, to the byte: a Batch without Puts has 20 bytes.
func TestRoom(t *testing.T) {
	for _, fits := range []int{0, 1, 2, 5} {
		for _, spare := range []int{0, 1, 19} {
			c := usual(1)
			c.Room = 20*fits + spare
			w := met(t, c)
			for range fits + 2 {
				w.does(0, begin(), commit())
				w.synced()
			}
			list := w.h.Deals()
			for k, d := range list {
				want := api.DealDone
				if k >= fits {
					want = api.DealFailed
				}
				if d.State != want {
					t.Errorf("with room for %d the transactions are %+v", c.Room, list)
				}
			}
			if len(w.h.Logged()) != fits {
				t.Errorf("with room for %d there are %+v", c.Room, w.h.Logged())
			}
		}
	}
}

// P21.5: of clients, pages and lanes that are none, nothing is told.
func TestNone(t *testing.T) {
	w := met(t, usual(2))
	for c := range 2 {
		w.does(c, begin(), write(c, 0, 1), commit())
		w.checkHas(c, c, all, all)
	}
	w.yes(tick(0), tick(1))
	for _, c := range append(wrong(2), 3) {
		w.checkClient(c, false, 0, false)
		if w.h.Waits(c) {
			t.Errorf("client %d waits", c)
		}
		for page := -1; page <= pages; page++ {
			w.checkHas(c, page, 0, 0)
		}
	}
	for _, page := range wrong(pages) {
		w.checkHas(0, page, 0, 0)
	}
	for _, lane := range wrong(lanes) {
		if w.h.Len(lane) != 0 {
			t.Errorf("lane %d has %d", lane, w.h.Len(lane))
		}
	}
	w.checkLens(map[int]int{up(0): 1, up(1): 1})
}
