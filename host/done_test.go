package host_test

import (
	"math"
	"testing"

	"cloakroom/api"
	"cloakroom/page"
	"cloakroom/sector"
	"cloakroom/tape"
	"cloakroom/wal"
)

// filled is a world whose store has another value for each object, and all of that is safe.
func filled(t *testing.T, frames int) *world {
	t.Helper()
	w := opened(t, tape.New(20000), sector.New(pages), frames, boot, patience)
	for k := range pages {
		var puts []api.Put
		for obj := range objs {
			puts = append(puts, put(k, obj, value(k, obj)))
		}
		if _, e := w.s.Commit(3, 1, 1, puts); e != api.OK {
			t.Fatal(e)
		}
	}
	w.s.Sync()
	return w
}

func value(page, obj int) complex128 {
	return complex(float64(10*page+obj), 1)
}

// values are those of a page of which a mask is told.
func values(page, mask int) []complex128 {
	list := make([]complex128, objs)
	for obj := range list {
		if mask>>obj&1 == 1 {
			list[obj] = value(page, obj)
		}
	}
	return list
}

// P19.3: AskRead and AskWrite of what is free: a Grant with the values of the store's page, whatever frames it has.
func TestAskOfWhatIsFree(t *testing.T) {
	for frames := 1; frames <= pages; frames++ {
		w := filled(t, frames)
		of := w.meetAll()
		for page := range pages {
			for obj := range objs {
				p := of[(page+obj)%clients]
				w.got(p.says(askRead(page, obj)), p.told(grant(page, all, 0, values(page, all)...)))
				w.has(p.client, page, all, 0)
				w.got(p.says(release(page, all, 0)), p.told())
				w.has(p.client, page, 0, 0)
				w.got(p.says(askWrite(page, obj)), p.told(grant(page, all, all, values(page, all)...)))
				w.has(p.client, page, all, all)
				w.got(p.says(release(page, all, 0)), p.told())
				w.has(p.client, page, 0, 0)
			}
		}
	}
}

// P19.3: a Grant has the values of the objects of its Copy, 0 for all others.
func TestGrantHasTheValuesOfItsCopy(t *testing.T) {
	for own := range all + 1 {
		for obj := range objs {
			if own>>obj&1 == 1 {
				continue
			}
			w := filled(t, 1)
			a, b := w.meets(0, 1), w.meets(1, 1)
			w.got(a.says(askWrite(4, 0)), a.told(grant(4, all, all, values(4, all)...)))
			w.got(a.says(release(4, all&^own, 0)), a.told())
			// What client 0 owns is no copy of another one's.
			w.got(b.says(askRead(4, obj)), b.told(grant(4, all&^own, 0, values(4, all&^own)...)))
			w.has(1, 4, all&^own, 0)
		}
	}
}

// P19.3: a Grant has the client's whole copies there, with those that it had already, as the store has them now.
func TestGrantHasAllThatTheClientHas(t *testing.T) {
	w := filled(t, 2)
	a, b := w.meets(0, 1), w.meets(2, 1)
	w.got(a.says(askWrite(4, 0)), a.told(grant(4, all, all, values(4, all)...)))
	w.got(a.says(release(4, 12, 0)), a.told())
	w.got(b.says(askRead(4, 3)), b.told(grant(4, 12, 0, values(4, 12)...)))
	w.got(a.says(commits(1, put(4, 0, 70), put(4, 1, 71))), a.told())
	w.got(a.says(release(4, 0, 2)), a.told())
	// Its copy of object 3 is told again; object 1 is what was written, though that isn't safe yet.
	w.got(b.says(askRead(4, 1)), b.told(grant(4, 14, 0, 0, 71, value(4, 2), value(4, 3))))
	w.logged(7, 6)
}

// P19.3: who waits for what another one has: that one is called, and the Grant is told when it gives way.
func TestAskOfWhatAnotherHas(t *testing.T) {
	w := filled(t, 6)
	a, b := w.meets(3, 1), w.meets(0, 1)
	w.owns(a, 1)
	w.got(b.says(askRead(1, 2)), b.told(), a.told(call(1, 2, false)))
	w.has(0, 1, 0, 0)
	w.got(b.hears(), b.told())
	w.got(a.says(release(1, 0, 14)), a.told(), b.told(grant(1, 14, 0, values(1, 14)...)))
	w.has(3, 1, all, 1)
	w.has(0, 1, 14, 0)
	w.got(b.says(askWrite(1, 2)), b.told(), a.told(call(1, 2, true)))
	w.got(a.says(release(1, 4, 0)), a.told(), b.told(grant(1, 14, 4, values(1, 14)...)))
	w.has(3, 1, 11, 1)
	w.has(0, 1, 14, 4)
}

// P19.3: Busy: who waits goes on to wait, till the Release comes.
func TestBusy(t *testing.T) {
	w := filled(t, 6)
	a, b := w.meets(3, 1), w.meets(0, 1)
	w.reads(a, 1)
	w.got(b.says(askWrite(1, 2)), b.told(), a.told(call(1, 2, true)))
	w.got(a.says(busy(1, 2, true)), a.told())
	w.got(b.hears(), b.told())
	w.has(0, 1, 0, 0)
	w.got(a.says(release(1, 4, 0)), a.told(), b.told(grant(1, all, 4, values(1, all)...)))
}

// P19.3: what a Busy leads to is told by it: a Grant to the client itself, which was passed by till it said something, and a
// Fail to another one that waits in a ring then.
func TestBusyTells(t *testing.T) {
	w := filled(t, 6)
	a, b := w.meets(0, 1), w.meets(1, 1)
	w.reads(a, 1)
	w.got(a.says(release(1, 8, 0)), a.told())
	w.got(b.says(askWrite(1, 2)), b.told(), a.told(call(1, 2, true)))
	// It isn't known yet what client 0 has of that page.
	w.got(a.says(askRead(1, 3)), a.told())
	w.got(a.says(busy(1, 2, true)), a.told(grant(1, all, 0, values(1, all)...)))
	w.has(0, 1, all, 0)

	w = filled(t, 6)
	a, b = w.meets(0, 1), w.meets(1, 1)
	w.owns(a, 1)
	w.owns(b, 2)
	w.got(a.says(askWrite(2, 0)), a.told(), b.told(call(2, 0, true)))
	w.got(b.says(askWrite(1, 0)), b.told(), a.told(call(1, 0, true)))
	w.got(b.says(busy(2, 0, true)), b.told())
	w.got(a.says(busy(1, 0, true)), a.told(), b.told(fail(0, api.ErrDeadlock)))
	w.got(b.says(release(2, 1, all)), b.told(), a.told(grant(2, all, 1, values(2, all)...)))
}

// P19.3: an ask by which two wait for each other: the greater one has to give way, and the other one is told what that frees.
func TestDeadlock(t *testing.T) {
	w := filled(t, 6)
	a, b := w.meets(0, 1), w.meets(1, 1)
	w.reads(a, 1)
	w.reads(b, 1)
	w.got(a.says(askWrite(1, 0)), a.told(), b.told(call(1, 0, true)))
	w.got(b.says(busy(1, 0, true)), b.told())
	w.got(b.says(askWrite(1, 0)), b.told(fail(0, api.ErrDeadlock)))
	w.got(b.says(release(1, 1, 0)), b.told(), a.told(grant(1, all, 1, values(1, all)...)))
	// And told to another one than the one whose packet it was.
	w = filled(t, 6)
	a, b = w.meets(0, 1), w.meets(1, 1)
	w.reads(a, 1)
	w.reads(b, 1)
	w.got(b.says(askWrite(1, 0)), b.told(), a.told(call(1, 0, true)))
	w.got(a.says(busy(1, 0, true)), a.told())
	w.got(a.says(askWrite(1, 0)), a.told(), b.told(fail(0, api.ErrDeadlock), call(1, 0, true)))
}

// P19.3: one Release by which several are told something, and one by several messages.
func TestReleaseTellsSeveral(t *testing.T) {
	w := filled(t, 6)
	of := w.meetAll()
	w.owns(of[2], 3)
	w.got(of[3].says(askRead(3, 1)), of[3].told(), of[2].told(call(3, 1, false)))
	w.got(of[1].says(askRead(3, 1)), of[1].told())
	w.got(of[0].says(askWrite(3, 1)), of[0].told())
	k := of[2].says(release(3, 0, all))
	w.got(k, of[2].told(call(3, 1, true)), of[1].told(grant(3, all, 0, values(3, all)...), call(3, 1, true)), of[3].told(grant(3, all, 0, values(3, all)...), call(3, 1, true)))
}

// spoiled has bytes of no page in a sector, which no frame of the store has.
func spoiled(t *testing.T, w *world, n int) {
	t.Helper()
	if e := w.d.Write(n, []byte("no page")); e != api.OK {
		t.Fatal(e)
	}
}

// P19.3: a page that can't be read: a Fail with Txn 0 and the store's error, and the desk isn't asked.
func TestAskOfAPageThatCantBeRead(t *testing.T) {
	for _, m := range []api.Msg{askRead(0, 1), askWrite(0, 1)} {
		w := filled(t, 2)
		spoiled(t, w, 0)
		a, b := w.meets(0, 1), w.meets(2, 1)
		w.unmoved(a.says(m), a.told(fail(0, api.ErrPage)))
		w.unmoved(b.says(m), b.told(fail(0, api.ErrPage)))
		w.has(0, 0, 0, 0)
		// It doesn't wait: it may ask for another one.
		w.got(a.says(askWrite(1, 1)), a.told(grant(1, all, all, values(1, all)...)))
		// And when the page can be read, nobody waits for it.
		right, _ := page.Bytes(api.Page{LSN: 1, Objs: [objs]complex128(values(0, all))})
		w.d.Write(0, right)
		w.got(b.says(askWrite(0, 1)), b.told(grant(0, all, all, values(0, all)...)))
	}
	for _, m := range []api.Msg{askRead(4, 1), askWrite(5, 0)} {
		w := opened(t, tape.New(1000), sector.New(4), 2, boot, patience)
		a := w.meets(0, 1)
		w.unmoved(a.says(m), a.told(fail(0, api.ErrSector)))
		w.got(a.says(askRead(3, 1)), a.told(grant(3, all, 0)))
	}
}

// P19.3: Release and Busy of what a client doesn't have, and of what nobody called it for, do nothing.
func TestReleaseAndBusyOfNothing(t *testing.T) {
	w := filled(t, 6)
	a, b := w.meets(0, 1), w.meets(1, 1)
	w.owns(a, 1)
	w.reads(a, 2)
	for page := range pages {
		w.unmoved(b.says(release(page, all, all)), b.told())
		w.unmoved(b.says(busy(page, 1, true)), b.told())
		w.unmoved(a.says(busy(page, 1, false)), a.told())
		w.unmoved(a.says(release(page, 0, 0)), a.told())
	}
}

// P19.3: a commit of what is owned is on the log, and nothing is told of it ahead of a Sync.
func TestCommit(t *testing.T) {
	w := newWorld(t)
	a, b := w.meets(0, 1), w.meets(2, 9)
	w.owns(a, 1)
	w.owns(b, 2)
	w.got(a.says(commits(4, put(1, 0, 7), put(1, 3, 8))), a.told())
	w.open(1)
	w.logged(1, 0)
	w.value(1, 0, 7)
	w.value(1, 3, 8)
	w.got(b.says(commits(maxNum, put(2, 2, 9))), b.told())
	w.open(2)
	w.logged(2, 0)
	w.ticks(a.told(), b.told())
	w.got(a.hears(), a.told())
	w.got(b.hears(), b.told())
	w.open(2)
	// The batches have the client and the epoch of the session.
	want := []api.Batch{
		{LSN: 1, Client: 0, Epoch: 1, Txn: 4, Puts: []api.Put{put(1, 0, 7), put(1, 3, 8)}},
		{LSN: 2, Client: 2, Epoch: 9, Txn: maxNum, Puts: []api.Put{put(2, 2, 9)}},
	}
	if got := w.s.Commits(); !wal.Same(got, want) {
		t.Errorf("the log has %+v, not %+v", got, want)
	}
	w.syncs(a.told(done(4)), b.told(done(maxNum)))
	w.open(0)
	w.logged(2, 2)
}

// P19.3: what is committed is owned still, and may be written again by the same client.
func TestCommitAgain(t *testing.T) {
	w := newWorld(t)
	a := w.meets(0, 1)
	w.owns(a, 1)
	for n := 1; n <= 8; n++ {
		w.got(a.says(commits(3, put(1, 0, complex(float64(n), 0)))), a.told())
		w.open(n)
		w.has(0, 1, all, all)
	}
	w.value(1, 0, 8)
	w.syncs(a.told(done(3), done(3), done(3), done(3), done(3), done(3), done(3), done(3)))
}

// P19.3: a commit of what isn't owned, be it one Put of many: a Fail of the Txn with 191, and the store is as before.
func TestCommitOfWhatIsNotOwned(t *testing.T) {
	for _, puts := range [][]api.Put{
		{put(0, 0, 1)}, {put(2, 0, 1)}, {put(3, 1, 1)}, {put(4, 3, 1)}, {put(5, 3, 1)},
		{put(0, 0, 1), put(1, 0, 1)}, {put(1, 0, 1), put(2, 0, 1)}, {put(1, 0, 1), put(1, 1, 1), put(1, 2, 1), put(1, 3, 1), put(4, 1, 1)},
		{put(1, 0, 1), put(4, 0, 1), put(4, 1, 1)}, {put(3, 0, 1), put(3, 1, 1)},
	} {
		for _, txn := range []int{0, 1, 6, maxNum} {
			w := filled(t, 3)
			a, b := w.meets(0, 1), w.meets(1, 1)
			// It owns page 1, object 0 of page 4, and object 0 of page 3; it has copies of page 2, and of object 1 of page 3.
			w.owns(a, 1)
			w.owns(a, 4)
			w.got(a.says(release(4, 0, 14)), a.told())
			w.reads(a, 2)
			w.owns(a, 3)
			w.got(a.says(release(3, 12, 2)), a.told())
			w.owns(b, 5)
			w.unmoved(a.says(commits(txn, puts...)), a.told(fail(txn, api.ErrHost)))
			w.open(0)
			w.syncs()
			w.ticks(a.told(), b.told())
			// It may commit what it owns all the same.
			w.got(a.says(commits(7, put(1, 0, 5), put(3, 0, 6), put(4, 0, 7))), a.told())
			w.open(1)
			w.syncs(a.told(done(7)))
		}
	}
}

// P19.3: what was owned, and was given up or lost with a session, isn't any more.
func TestCommitOfWhatWasOwned(t *testing.T) {
	w := newWorld(t)
	a := w.meets(0, 1)
	w.owns(a, 1)
	w.got(a.says(release(1, 0, 4)), a.told())
	w.unmoved(a.says(commits(1, put(1, 2, 1))), a.told(fail(1, api.ErrHost)))
	w.got(a.says(commits(1, put(1, 1, 1))), a.told())
	a = w.meets(0, 2)
	w.unmoved(a.says(commits(1, put(1, 1, 1))), a.told(fail(1, api.ErrHost)))
}

// P19.3: a commit with no Puts needs nothing that is owned.
func TestCommitOfNothing(t *testing.T) {
	w := newWorld(t)
	a := w.meets(3, 2)
	w.got(a.says(commits(1)), a.told())
	w.open(1)
	w.logged(1, 0)
	w.syncs(a.told(done(1)))
	w.logged(1, 1)
}

// P19.3: a commit of all objects there are.
func TestCommitOfAll(t *testing.T) {
	w := newWorld(t)
	a := w.meets(3, 2)
	var puts []api.Put
	for page := range pages {
		w.owns(a, page)
		for obj := range objs {
			puts = append(puts, put(page, obj, value(page, obj)))
		}
	}
	w.got(a.says(commits(1, puts...)), a.told())
	w.syncs(a.told(done(1)))
	b := w.meets(2, 2)
	for page := range pages {
		w.got(b.says(askRead(page, 1)), b.told(), a.told(call(page, 1, false)))
		w.got(a.says(release(page, 0, all)), a.told(), b.told(grant(page, all, 0, values(page, all)...)))
	}
}

// P19.3: values of all kinds come as they are.
func TestCommitOfAllValues(t *testing.T) {
	w := newWorld(t)
	a, b := w.meets(0, 1), w.meets(1, 1)
	list := []complex128{complex(math.Copysign(0, -1), math.Inf(1)), complex(math.NaN(), math.MaxFloat64), complex(math.SmallestNonzeroFloat64, -1), complex(math.Inf(-1), 0)}
	var puts []api.Put
	for obj, v := range list {
		puts = append(puts, put(2, obj, v))
	}
	w.owns(a, 2)
	w.got(a.says(commits(1, puts...)), a.told())
	w.got(b.says(askRead(2, 0)), b.told(), a.told(call(2, 0, false)))
	w.got(a.says(release(2, 0, all)), a.told(), b.told(grant(2, all, 0, list...)))
}

// P19.3: a commit that the store refuses: a Fail of the Txn with its error. Txn 0 is one that the log doesn't take.
func TestCommitWithErrWal(t *testing.T) {
	w := newWorld(t)
	a := w.meets(0, 1)
	w.owns(a, 1)
	w.unmoved(a.says(commits(0, put(1, 1, 1))), a.told(fail(0, api.ErrWal)))
	w.unmoved(a.says(commits(0)), a.told(fail(0, api.ErrWal)))
	w.open(0)
	w.syncs()
	// The log has no more LSNs.
	x := tape.New(1000)
	b, _ := wal.Bytes(api.Batch{LSN: maxNum - 1, Client: 1, Epoch: 1, Txn: 1})
	x.Append(b)
	w = opened(t, x, sector.New(pages), 2, boot, patience)
	a = w.meets(0, 1)
	w.owns(a, 1)
	w.got(a.says(commits(5, put(1, 1, 1))), a.told())
	w.logged(maxNum, 0)
	w.unmoved(a.says(commits(6, put(1, 1, 2))), a.told(fail(6, api.ErrWal)))
	w.open(1)
	w.syncs(a.told(done(5)))
	w.value(1, 1, 1)
}

// P19.3: the log is full.
func TestCommitWithErrFull(t *testing.T) {
	first, _ := wal.Bytes(api.Batch{LSN: 1, Epoch: 1, Txn: 5, Puts: []api.Put{put(1, 1, 1)}})
	for room := range len(first) + 3 {
		w := opened(t, tape.New(room), sector.New(pages), 2, boot, patience)
		a := w.meets(0, 1)
		w.owns(a, 1)
		if room < len(first) {
			w.unmoved(a.says(commits(5, put(1, 1, 1))), a.told(fail(5, api.ErrFull)))
			w.open(0)
			w.value(1, 1, 0)
			w.syncs()
			continue
		}
		w.got(a.says(commits(5, put(1, 1, 1))), a.told())
		w.unmoved(a.says(commits(6, put(1, 1, 2))), a.told(fail(6, api.ErrFull)))
		w.open(1)
		w.value(1, 1, 1)
		w.syncs(a.told(done(5)))
		// There is room again.
		w.x.Limit(1000)
		w.got(a.says(commits(7, put(1, 1, 3))), a.told())
		w.syncs(a.told(done(7)))
	}
}

// P19.3: a page that can't be read any more: the store's error is told, and no commit of it.
func TestCommitWithErrPage(t *testing.T) {
	w := filled(t, 1)
	if e := w.s.Checkpoint(); e != api.OK {
		t.Fatal(e)
	}
	a := w.meets(0, 1)
	w.owns(a, 1)
	w.owns(a, 2)
	spoiled(t, w, 1)
	w.got(a.says(commits(5, put(1, 1, 1))), a.told(fail(5, api.ErrPage)))
	w.open(0)
	w.syncs()
	w.got(a.says(commits(6, put(2, 1, 1))), a.told())
	w.syncs(a.told(done(6)))
}

// P19.3: what a client doesn't say: Grant, Call, Done and Fail do nothing but that they came.
func TestWhatClientsDontSay(t *testing.T) {
	for _, m := range []api.Msg{grant(1, all, all, 1, 2, 3, 4), grant(2, 0, 0), grant(5, 1, 0), call(1, 1, true), call(2, 0, false), done(0), done(4), fail(4, api.ErrHost), fail(0, api.ErrDeadlock), fail(4, 999)} {
		for _, s := range inStates(t) {
			if s.isThere() && s.what != "crowded" {
				s.unmoved(s.p.says(m), s.p.told())
			}
		}
	}
}

// P19.3: a client that waits and asks again is told nothing twice.
func TestAskAgain(t *testing.T) {
	w := filled(t, 6)
	a, b := w.meets(0, 1), w.meets(1, 1)
	w.owns(a, 1)
	w.got(b.says(askRead(1, 2)), b.told(), a.told(call(1, 2, false)))
	w.unmoved(b.says(askRead(1, 2)), b.told())
	w.unmoved(b.says(askWrite(3, 2)), b.told())
	w.got(a.says(release(1, 0, all)), a.told(), b.told(grant(1, all, 0, values(1, all)...)))
	// It waits no more: now it may ask.
	w.got(b.says(askWrite(3, 2)), b.told(grant(3, all, all, values(3, all)...)))
}
