package house_test

import (
	"fmt"
	"testing"

	"cloakroom/api"
)

func put(page, obj int, v complex128) api.Put {
	return api.Put{Page: page, Obj: obj, Value: v}
}

func batch(lsn, client, epoch, txn int, puts ...api.Put) api.Batch {
	return api.Batch{LSN: lsn, Client: client, Epoch: epoch, Txn: txn, Puts: puts}
}

func (w *world) checkLogged(want ...api.Batch) {
	w.t.Helper()
	if got := w.h.Logged(); len(got) != len(want) || len(got) > 0 && fmt.Sprintf("%+v", got) != fmt.Sprintf("%+v", want) {
		w.t.Errorf("logged is\n%+v, not\n%+v", got, want)
	}
}

// commits has a client commit one object; it is logged, and nobody is told yet.
func (w *world) commits(client, page, obj int, v complex128) {
	w.t.Helper()
	w.does(client, begin(), write(page, obj, v), commit())
}

// P21.4: a commit is LOGGED with the step that brings it to the server, be it safe or not.
func TestLogged(t *testing.T) {
	w := met(t, usual(2))
	w.does(1, begin(), write(3, 2, 7), write(1, 3, 6), write(1, 0, 5i), read(1, 1))
	w.yes(do(1, commit()))
	w.checkLogged()
	w.yes(deliver(up(1), 0))
	first := batch(1, 1, 1, 1, put(1, 0, 5i), put(1, 3, 6), put(3, 2, 7))
	w.checkLogged(first)
	w.calm()
	w.checkLogged(first)
	w.synced()
	w.checkLogged(first)
	w.does(0, begin(), commit())
	second := batch(2, 0, 1, 1)
	w.checkLogged(first, second)
	w.synced()
	w.does(1, begin(), abort(), begin(), write(3, 2, 8), abort(), begin(), commit())
	w.checkLogged(first, second, batch(3, 1, 1, 4))
}

// P21.4: what a commit that fails wrote isn't LOGGED.
func TestNotLogged(t *testing.T) {
	w := met(t, usual(1))
	w.yes(room(41))
	w.commits(0, 1, 1, 5)
	w.checkLogged()
	w.yes(room(42))
	w.commits(0, 1, 1, 6)
	w.checkLogged(batch(1, 0, 1, 2, put(1, 1, 6)))
}

// P21.4: a fall drops what isn't safe: it is gone at the Rise, not ahead of it; others have its numbers then.
func TestLoggedBehindFall(t *testing.T) {
	one, two := batch(1, 0, 1, 1, put(1, 1, 5)), batch(2, 1, 1, 1, put(2, 2, 6))
	three := batch(3, 2, 1, 1, put(3, 3, 7))
	for kept, keep := range []int{0, 42, 84} {
		w := met(t, usual(3))
		w.commits(0, 1, 1, 5)
		w.synced()
		w.commits(1, 2, 2, 6)
		w.commits(2, 3, 3, 7)
		w.checkLogged(one, two, three)
		w.yes(fall(keep, 0))
		w.checkLogged(one, two, three)
		w.no(syncs())
		w.yes(tick(0), room(3000))
		w.checkLogged(one, two, three)
		w.yes(rise())
		left := []api.Batch{one, two, three}[:1+kept]
		w.checkLogged(left...)
		w.calm()
		w.meets(0)
		w.commits(0, 4, 0, 8)
		left = append(left, batch(2+kept, 0, 2, 2, put(4, 0, 8)))
		w.checkLogged(left...)
		w.yes(fall(0, 0), rise())
		w.checkLogged(left[:1+kept]...)
	}
}

// P21.4: a fall that cuts a commit in two drops it.
func TestLoggedBehindTornTape(t *testing.T) {
	for keep := range 42 {
		w := met(t, usual(1))
		w.commits(0, 1, 1, 5)
		w.yes(fall(keep, 63), rise())
		w.checkLogged()
		w.checkMap([pages]api.Page{})
	}
}

// P21.4: what was there stays behind a checkpoint, also behind a fall; and what comes then is counted on from there.
func TestLoggedBehindCheckpoint(t *testing.T) {
	w := met(t, usual(2))
	w.commits(0, 1, 1, 5)
	w.commits(1, 2, 2, 6)
	list := []api.Batch{batch(1, 0, 1, 1, put(1, 1, 5)), batch(2, 1, 1, 1, put(2, 2, 6))}
	w.yes(checkpoint())
	w.checkLogged(list...)
	w.synced()
	w.yes(checkpoint(), checkpoint())
	w.checkLogged(list...)
	w.commits(0, 1, 1, 7)
	list = append(list, batch(3, 0, 1, 2, put(1, 1, 7)))
	w.checkLogged(list...)
	w.yes(fall(0, 0))
	w.checkLogged(list...)
	w.yes(rise())
	w.checkLogged(list[:2]...)
	w.meets(1)
	w.commits(1, 1, 1, 8)
	list = append(list[:2:2], batch(3, 1, 2, 2, put(1, 1, 8)))
	w.checkLogged(list...)
	w.yes(checkpoint(), fall(0, 0), rise(), fall(0, 0), rise())
	w.checkLogged(list...)
	w.checkValue(1, 1, 8)
	w.checkValue(2, 2, 6)
}

// P21.5: Map is the Store's, with what isn't safe yet; and there is none while the server isn't up.
func TestMap(t *testing.T) {
	w := met(t, usual(2))
	var want [pages]api.Page
	w.commits(0, 1, 1, 5)
	want[1] = api.Page{LSN: 1, Objs: [objs]complex128{1: 5}}
	w.checkMap(want)
	w.does(1, begin(), write(5, 0, 6))
	w.checkMap(want)
	w.does(1, write(5, 3, 7), commit())
	want[5] = api.Page{LSN: 2, Objs: [objs]complex128{0: 6, 3: 7}}
	w.checkMap(want)
	w.synced()
	w.yes(fall(0, 0))
	for range 2 {
		if list, e := w.h.Map(); e != api.ErrHouse || len(list) > 0 {
			t.Errorf("Map without a server: %+v %d", list, e)
		}
	}
	w.yes(rise())
	w.checkMap(want)
}

// P21.5: whether a client's session lives: server and client have to know of one and the same.
func TestLive(t *testing.T) {
	w := newWorld(t, usual(2))
	w.yes(tick(0), deliver(up(0), 0))
	w.checkClient(0, true, 1, false)
	w.yes(deliver(down(0), 0))
	w.checkClient(0, true, 1, true)
	w.checkClient(1, true, 1, false)
	w.yes(fall(0, 0))
	w.checkClient(0, true, 1, false)
	w.yes(rise())
	w.checkClient(0, true, 1, false)
	w.yes(tick(0), deliver(up(0), 0), deliver(down(0), 0))
	w.checkClient(0, true, 2, false)
	w.yes(deliver(up(0), 0))
	w.checkClient(0, true, 2, false)
	w.yes(deliver(down(0), 0))
	w.checkClient(0, true, 2, true)
	w.yes(crash(0))
	w.checkClient(0, false, 2, false)
	w.yes(start(0))
	w.checkClient(0, true, 3, false)
	w.yes(tick(0), deliver(up(0), 0))
	w.checkClient(0, true, 3, false)
	w.yes(deliver(down(0), 0))
	w.checkClient(0, true, 3, true)
}

// P21.5: a session of the start of the server ahead of this one doesn't live, though the epoch is the same: the old
// server's packet comes behind the new one's.
func TestLiveOfOldBoot(t *testing.T) {
	w := newWorld(t, usual(1))
	w.yes(tick(0), double(up(0), 0), deliver(up(0), 0), fall(0, 0), rise(), deliver(up(0), 0))
	// Both servers have told the client of a session in epoch 1: the old one's comes first.
	w.yes(deliver(down(0), 0))
	w.checkClient(0, true, 1, false)
	w.yes(deliver(down(0), 0))
	w.checkClient(0, true, 2, false)
	w.meets(0)
}

// P21.5: Copies and Own are what the client knows, not what the server does.
func TestCopiesAndOwn(t *testing.T) {
	w := met(t, usual(2))
	w.does(0, begin())
	w.yes(do(0, write(1, 1, 5)), deliver(up(0), 0))
	w.checkHas(0, 1, 0, 0)
	w.yes(deliver(down(0), 0))
	w.checkHas(0, 1, all, all)
	w.checkHas(0, 2, 0, 0)
	w.checkHas(1, 1, 0, 0)
	w.calm()
	w.does(1, begin())
	w.yes(do(1, read(1, 2)), deliver(up(1), 0))
	w.checkHas(0, 1, all, all)
	w.yes(deliver(down(0), 0))
	w.checkHas(0, 1, all, 2)
	w.calm()
	w.checkHas(1, 1, all-2, 0)
}
