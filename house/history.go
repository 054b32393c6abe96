package house

import (
	"slices"

	"cloakroom/api"
)

// Deals: all transactions.
func (h *House) Deals() []api.Deal {
	return handedOut(h.deals, ownDeal)
}

// Logged: all commits that are on the log, or were cut off it.
func (h *House) Logged() []api.Batch {
	return handedOut(h.logged, ownBatch)
}

// handedOut is a list in memory of its own; own makes that of the lists in its parts.
func handedOut[T any](list []T, own func(T) T) []T {
	all := make([]T, len(list))
	for k, x := range list {
		all[k] = own(x)
	}
	return all
}

func ownDeal(d api.Deal) api.Deal {
	d.Deeds = slices.Clone(d.Deeds)
	return d
}

func ownBatch(b api.Batch) api.Batch {
	b.Puts = slices.Clone(b.Puts)
	return b
}

// answered keeps what an answer says of a client's transaction: it began, did something, or is done.
func (h *House) answered(n int, o api.Op, x api.Answer) {
	if x.Err != api.OK {
		return
	}
	c := &h.clients[n]
	switch o.Kind {
	case api.OpBegin:
		c.current = len(h.deals)
		h.deals = append(h.deals, api.Deal{Client: n, Epoch: c.guest.Epoch(), Txn: c.guest.Agent().Txn(), Began: h.time, Ended: -1})
	case api.OpRead:
		h.did(c, api.Deed{Page: o.Page, Obj: o.Obj, Value: x.Value})
	case api.OpWrite:
		h.did(c, api.Deed{Write: true, Page: o.Page, Obj: o.Obj, Value: o.Value})
	case api.OpCommit:
		// Who is told that has no open transaction any more: settle ends it, in this state.
		h.deals[c.current].State = api.DealDone
	}
}

// did adds to a client's open transaction: only in one anything is read or written without error.
func (h *House) did(c *client, d api.Deed) {
	deal := &h.deals[c.current]
	deal.Deeds = append(deal.Deeds, d)
}

// settle ends the transactions that aren't open any more behind a step.
func (h *House) settle() {
	for n := range h.clients {
		c := &h.clients[n]
		if c.current == none {
			continue
		}
		d := &h.deals[c.current]
		here := c.guest != nil && c.guest.Epoch() == d.Epoch
		if here && c.guest.Agent().Open() {
			continue
		}
		d.Ended = h.time
		if d.State == api.DealOpen {
			d.State = unanswered(here)
		}
		c.current = none
	}
}

// unanswered is the state of a transaction that ended without a commit's answer.
func unanswered(here bool) int {
	if here {
		return api.DealFailed
	}
	return api.DealLost
}

// follow brings what is logged to where the log is: behind a fall that may have lost some, and others have their numbers then.
func (h *House) follow() {
	if !h.HostUp() {
		return
	}
	// Commits are numbered from 1 on, so there are as many as the last one's number.
	last := h.server.store.Last()
	h.logged = h.logged[:min(len(h.logged), last)]
	// The log is read only where there is something new on it: it may be long, and most steps log nothing.
	if len(h.logged) == last {
		return
	}
	for _, b := range h.server.store.Commits() {
		if b.LSN > len(h.logged) {
			h.logged = append(h.logged, b)
		}
	}
}
