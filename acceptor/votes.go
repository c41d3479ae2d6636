package acceptor

import (
	"bytes"
	"maps"
	"slices"

	"quorum/api"
	"quorum/ballot"
)

// leads tells whether a ballot is one that a replica leads: {0 0} is valid, too, but nobody's.
func (a *Acceptor) leads(b api.Ballot) bool { return b.Num > 0 && a.Valid(b) }

// hears tells whether what a leader sends is to be looked at further.
func (a *Acceptor) hears(src api.Addr, b api.Ballot) bool {
	return a.made() && a.leads(b) && src == api.Addr(b.Node) && !ballot.Less(b, a.max)
}

// noVote searches for a reason that no acceptor votes so: a proposal is then answered with nothing, a record refused.
func (a *Acceptor) noVote(b api.Ballot, slot uint64, batch api.Batch) bool {
	found := true
search:
	switch {
	case !a.leads(b), slot >= a.Config().MaxSlot:
	case batch.Stamp > api.MaxTick, len(batch.Reqs) > api.MaxReqs:
	default:
		for _, r := range batch.Reqs {
			if r.Client < uint64(api.FirstClient) || r.Seq == 0 || len(r.Cmd) > api.MaxCmd {
				break search
			}
		}
		found = false
	}
	return found
}

// writes tells whether an acceptor may have written a record. What others write is not looked at.
func (a *Acceptor) writes(r api.Record) bool {
	switch r.Kind {
	case api.RPromise:
		return a.leads(r.Bal)
	case api.RVote:
		return !a.noVote(r.Bal, r.Slot, r.Batch)
	case api.RLow:
		return r.Slot <= a.Config().MaxSlot
	}
	return true
}

// record takes a record and hands it out. As nothing but records changes promises, votes and low, those of the log give the same acceptor again.
func (a *Acceptor) record(r api.Record) []api.Record {
	a.take(r)
	r.Batch = twin(r.Batch)
	return []api.Record{r}
}

// take does what a record says.
func (a *Acceptor) take(r api.Record) {
	switch r.Kind {
	case api.RPromise:
		a.rise(r.Bal)
	case api.RVote:
		a.rise(r.Bal)
		a.vote(api.Vote{Slot: r.Slot, Bal: r.Bal, Batch: r.Batch})
	case api.RLow:
		a.cut(r.Slot)
	}
}

// rise lets the greatest ballot go up, never down.
func (a *Acceptor) rise(b api.Ballot) {
	if ballot.Less(a.max, b) {
		a.max = b
	}
}

// cut lets low go up, never down, and forgets the votes below it.
func (a *Acceptor) cut(low uint64) {
	a.low = max(a.low, low)
	for slot := range a.votes {
		if slot < a.low {
			delete(a.votes, slot)
		}
	}
}

// vote keeps a vote, unless its slot is past or has one of a higher ballot. A slot behind the window draws low along: its leader knew that a quorum has reached so far.
func (a *Acceptor) vote(v api.Vote) {
	if v.Slot < a.low {
		return
	}
	if !a.Inside(a.low, v.Slot) {
		a.cut(v.Slot - a.Config().Window + 1)
	}
	if held, voted := a.votes[v.Slot]; voted && ballot.Less(v.Bal, held.Bal) {
		return
	}
	v.Batch = twin(v.Batch)
	a.votes[v.Slot] = v
}

// list gives the votes, rising by slot, in new memory.
func (a *Acceptor) list() []api.Vote {
	var votes []api.Vote
	for _, slot := range slices.Sorted(maps.Keys(a.votes)) {
		v := a.votes[slot]
		v.Batch = twin(v.Batch)
		votes = append(votes, v)
	}
	return votes
}

// twin gives the same batch in new memory; what is empty in it is nil.
func twin(b api.Batch) api.Batch {
	var reqs []api.Request
	for _, r := range b.Reqs {
		r.Cmd = append([]byte(nil), r.Cmd...)
		reqs = append(reqs, r)
	}
	b.Reqs = reqs
	return b
}

// alike tells whether two batches are the same.
func alike(a, b api.Batch) bool {
	return a.Stamp == b.Stamp && slices.EqualFunc(a.Reqs, b.Reqs, sameRequest)
}

func sameRequest(a, b api.Request) bool {
	return a.Client == b.Client && a.Seq == b.Seq && bytes.Equal(a.Cmd, b.Cmd)
}
