package house

import (
	"testing"

	"cloakroom/api"
	"cloakroom/msg"
	"cloakroom/net"
)

// What no row of steps comes to in a short time, or at all, is made here by the hidden fields.

func made(t *testing.T, clients int) *House {
	t.Helper()
	h, e := New(api.Config{Clients: clients, Frames: 1, Many: 2, Patience: 3, Room: 3000})
	if e != api.OK {
		t.Fatal(e)
	}
	for c := range clients {
		h.Step(api.Step{Kind: api.StepTick, Client: c})
	}
	calm(h)
	return h
}

// calm delivers all that is on its way.
func calm(h *House) {
	for any := true; any; {
		any = false
		for lane := range 8 {
			any = h.Step(api.Step{Kind: api.StepDeliver, Lane: lane}) || any
		}
	}
}

func ask(h *House, o api.Op) {
	h.Step(api.Step{Kind: api.StepDo, Op: o})
	calm(h)
}

func step(t *testing.T, h *House, s api.Step, want bool) {
	t.Helper()
	time := h.Time()
	if h.Step(s) != want || h.Time() != time+1 {
		t.Errorf("%+v: not %t, or the time goes on from %d to %d", s, want, time, h.Time())
	}
}

// P21.2: behind the last epoch a client doesn't start any more.
func TestLastEpochOfAll(t *testing.T) {
	h := made(t, 2)
	step(t, h, api.Step{Kind: api.StepCrash}, true)
	h.clients[0].epoch = api.MaxNum - 1
	step(t, h, api.Step{Kind: api.StepStart}, true)
	if !h.Up(0) || h.Epoch(0) != api.MaxNum {
		t.Errorf("it runs: %t, epoch %d", h.Up(0), h.Epoch(0))
	}
	step(t, h, api.Step{Kind: api.StepTick}, true)
	calm(h)
	if !h.Live(0) {
		t.Error("it has no session")
	}
	step(t, h, api.Step{Kind: api.StepCrash}, true)
	for range 2 {
		step(t, h, api.Step{Kind: api.StepStart}, false)
		if h.Up(0) || h.Epoch(0) != api.MaxNum || h.Waits(0) || h.Live(0) {
			t.Errorf("it runs: %t, epoch %d", h.Up(0), h.Epoch(0))
		}
	}
	step(t, h, api.Step{Kind: api.StepDo, Op: api.Op{Kind: api.OpBegin}}, false)
	if !h.Up(1) || !h.Live(1) {
		t.Error("the other client has no session any more")
	}
}

// P21.3: in the last epoch a lost session leaves the epoch as it is: what was open is Failed then.
func TestLostInTheLastEpoch(t *testing.T) {
	h := made(t, 1)
	step(t, h, api.Step{Kind: api.StepCrash}, true)
	h.clients[0].epoch = api.MaxNum - 1
	step(t, h, api.Step{Kind: api.StepStart}, true)
	step(t, h, api.Step{Kind: api.StepTick}, true)
	calm(h)
	ask(h, api.Op{Kind: api.OpBegin})
	step(t, h, api.Step{Kind: api.StepFall}, true)
	step(t, h, api.Step{Kind: api.StepRise}, true)
	step(t, h, api.Step{Kind: api.StepTick}, true)
	calm(h)
	if list := h.Deals(); len(list) != 1 || list[0].State != api.DealFailed || list[0].Epoch != api.MaxNum || h.Epoch(0) != api.MaxNum {
		t.Errorf("%+v in epoch %d", list, h.Epoch(0))
	}
}

// P21.2: behind the last BOOT the server doesn't rise any more, and nothing happens.
func TestLastBoot(t *testing.T) {
	h := made(t, 1)
	h.boot = api.MaxNum - 1
	step(t, h, api.Step{Kind: api.StepFall}, true)
	step(t, h, api.Step{Kind: api.StepRise}, true)
	if !h.HostUp() || h.Boot() != api.MaxNum {
		t.Errorf("it is up: %t, boot %d", h.HostUp(), h.Boot())
	}
	step(t, h, api.Step{Kind: api.StepTick}, true)
	calm(h)
	if !h.Live(0) || h.Epoch(0) != 2 {
		t.Errorf("no session: epoch %d", h.Epoch(0))
	}
	step(t, h, api.Step{Kind: api.StepFall}, true)
	// What stands behind the log's end would be cut off by an Open.
	h.tape.Append([]byte{1})
	for range 2 {
		step(t, h, api.Step{Kind: api.StepRise}, false)
		if h.HostUp() || h.Boot() != api.MaxNum || len(h.tape.Bytes()) != 1 {
			t.Errorf("it is up: %t, boot %d, %d bytes on the tape", h.HostUp(), h.Boot(), len(h.tape.Bytes()))
		}
	}
}

// P21.2: a Rise whose Store can't be Opened: BOOT is one more, but the server isn't up.
func TestRiseWithoutStore(t *testing.T) {
	h := made(t, 1)
	for _, o := range []api.Op{{Kind: api.OpBegin}, {Kind: api.OpWrite, Page: 2, Obj: 1, Value: 5}, {Kind: api.OpCommit}} {
		ask(h, o)
	}
	step(t, h, api.Step{Kind: api.StepFall, N: 42}, true)
	h.drive.Write(2, []byte("no page"))
	for boot := 2; boot <= 4; boot++ {
		step(t, h, api.Step{Kind: api.StepRise}, false)
		if h.HostUp() || h.Boot() != boot || h.Live(0) || len(h.Logged()) != 1 {
			t.Errorf("it is up: %t, boot %d, and logged is %+v", h.HostUp(), h.Boot(), h.Logged())
		}
		if list, e := h.Map(); e != api.ErrHouse || len(list) > 0 {
			t.Errorf("Map: %+v %d", list, e)
		}
		step(t, h, api.Step{Kind: api.StepSync}, false)
		step(t, h, api.Step{Kind: api.StepFall}, false)
	}
	h.drive.Write(2, nil)
	step(t, h, api.Step{Kind: api.StepRise}, true)
	if list, e := h.Map(); !h.HostUp() || h.Boot() != 5 || e != api.OK || list[2].Objs[1] != 5 {
		t.Errorf("it is up: %t, boot %d, Map: %+v %d", h.HostUp(), h.Boot(), list, e)
	}
}

// P21.2: a fall keeps N bytes of the tape, and the sectors of the mask At.
func TestFallOfDevices(t *testing.T) {
	for keep := range 4 {
		for mask := range 8 {
			h := made(t, 1)
			h.tape.Append([]byte("ab"))
			h.tape.Sync()
			h.tape.Append([]byte("cde"))
			for k := range 3 {
				h.drive.Write(k, []byte{byte(k)})
			}
			step(t, h, api.Step{Kind: api.StepFall, N: keep, At: mask}, true)
			if string(h.tape.Bytes()) != "abcde"[:2+keep] || h.tape.Safe() != 2+keep {
				t.Errorf("a fall that keeps %d leaves %q", keep, h.tape.Bytes())
			}
			for k := range 3 {
				if b, _ := h.drive.Read(k); len(b) != mask>>k&1 {
					t.Errorf("a fall that keeps the sectors %b leaves %x in sector %d", mask, b, k)
				}
			}
			if len(h.drive.Loose()) > 0 {
				t.Errorf("behind a fall %v are loose", h.drive.Loose())
			}
		}
	}
}

// P21.2: a fall that wasn't one leaves the devices as they are.
func TestNoFallOfDevices(t *testing.T) {
	h := made(t, 1)
	step(t, h, api.Step{Kind: api.StepFall}, true)
	h.tape.Append([]byte("cde"))
	h.drive.Write(1, []byte("x"))
	step(t, h, api.Step{Kind: api.StepFall}, false)
	if b, _ := h.drive.Read(1); len(h.tape.Bytes()) != 3 || len(b) != 1 {
		t.Errorf("%q and %q are left", h.tape.Bytes(), b)
	}
}

// P21.2: a packet on another client's lane is taken, and that is all.
func TestPacketOnAnotherLane(t *testing.T) {
	for lane := range 8 {
		for client := range api.MaxClients {
			h, _ := New(api.Config{Clients: 4, Frames: 1, Many: 2, Patience: 3, Room: 3000})
			server := lane%2 == 1
			p := api.Packet{Client: client, Epoch: 1, Server: server}
			if server {
				p.Boot = 1
			}
			frame, _ := msg.Frame(p)
			h.net.Put(lane, frame)
			step(t, h, api.Step{Kind: api.StepDeliver, Lane: lane}, true)
			own := lane/2 == client
			if !server && (h.Len(net.Lane(client, true)) == 1) != own {
				t.Errorf("of client %d on lane %d: the server answers: %t", client, lane, !own)
			}
			if server && (h.clients[client].guest.Boot() == 1) != own {
				t.Errorf("to client %d on lane %d: it has a session: %t", client, lane, !own)
			}
		}
	}
}

// P21.5: a session of another epoch than the client's isn't that which the client has.
func TestLiveOfAnotherEpoch(t *testing.T) {
	h := made(t, 1)
	frame, _ := msg.Frame(api.Packet{Epoch: 9})
	h.net.Put(0, frame)
	if !h.Live(0) {
		t.Error("it has no session")
	}
	step(t, h, api.Step{Kind: api.StepDeliver}, true)
	if h.Live(0) || h.server.host.Live(0) != 9 {
		t.Errorf("it lives: %t, in epoch %d", h.Live(0), h.server.host.Live(0))
	}
}
