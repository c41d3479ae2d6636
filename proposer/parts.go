package proposer

import (
	"slices"

	"quorum/api"
	"quorum/ballot"
)

// validRequest tells whether a client may have asked so.
func validRequest(r api.Request) bool {
	return r.Client >= uint64(api.FirstClient) && r.Seq > 0 && len(r.Cmd) <= api.MaxCmd
}

// validBatch tells whether a leader may have proposed so.
func validBatch(b api.Batch) bool {
	wrong := func(r api.Request) bool { return !validRequest(r) }
	return b.Stamp <= api.MaxTick && len(b.Reqs) <= api.MaxReqs && !slices.ContainsFunc(b.Reqs, wrong)
}

// validVotes tells whether an acceptor with this low that promises the ballot may have just these votes.
func (p *Proposer) validVotes(low uint64, votes []api.Vote) bool {
	for i, v := range votes {
		switch {
		case !p.group.Inside(low, v.Slot), i > 0 && v.Slot <= votes[i-1].Slot:
			return false
		case !p.led(v.Bal), ballot.Less(p.bal, v.Bal), !validBatch(v.Batch):
			return false
		}
	}
	return true
}

// superseded tells whether one of the requests makes r needless: clients number theirs upwards, and an older one no longer counts.
func superseded(r api.Request, by []api.Request) bool {
	return slices.ContainsFunc(by, func(b api.Request) bool { return b.Client == r.Client && b.Seq >= r.Seq })
}

// without takes the requests that others supersede out of a list of the proposer's own.
func without(list, by []api.Request) []api.Request {
	return slices.DeleteFunc(list, func(r api.Request) bool { return superseded(r, by) })
}

// prepare is the question of phase 1.
func (p *Proposer) prepare() api.Msg { return api.Msg{Kind: api.KPrepare, Bal: p.bal} }

// proposal is the message that a proposal travels in.
func proposal(v api.Vote) api.Msg {
	return api.Msg{Kind: api.KPropose, Bal: v.Bal, Slot: v.Slot, Batch: v.Batch}
}

// toAll addresses a message to each replica, every time with a batch of its own.
func (p *Proposer) toAll(m api.Msg) []api.Send {
	var sends []api.Send
	for n := range p.group.Nodes() {
		m.Batch.Reqs = twinRequests(m.Batch.Reqs)
		sends = append(sends, api.Send{To: api.Addr(n), Msg: m})
	}
	return sends
}

// twinRequest gives the same request in new memory.
func twinRequest(r api.Request) api.Request {
	r.Cmd = append([]byte(nil), r.Cmd...)
	return r
}

// twinRequests gives the same requests in new memory; nil if there are none.
func twinRequests(list []api.Request) []api.Request {
	var twins []api.Request
	for _, r := range list {
		twins = append(twins, twinRequest(r))
	}
	return twins
}

// twinVotes gives the same votes in new memory; nil if there are none.
func twinVotes(list []api.Vote) []api.Vote {
	var twins []api.Vote
	for _, v := range list {
		v.Batch.Reqs = twinRequests(v.Batch.Reqs)
		twins = append(twins, v)
	}
	return twins
}
