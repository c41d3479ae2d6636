package proposer

import (
	"slices"

	"quorum/api"
	"quorum/ballot"
)

// verdict is what a reason for a batch says of the next slot.
type verdict int

const (
	pass verdict = iota // it does not apply: the next reason is asked
	wait                // nothing is proposed now
	take                // its batch is proposed
)

// batch asks the reasons for a batch in their order. It tells false where nothing is to be proposed.
func (p *Proposer) batch(now uint64) (api.Batch, bool) {
	reasons := []func(uint64) (api.Batch, verdict){p.oldVote, p.gap, p.full, p.nothingWaits, p.notFull}
	for _, reason := range reasons {
		if b, v := reason(now); v != pass {
			return b, v == take
		}
	}
	return api.Batch{}, false
}

// oldVote: what may have been chosen already is proposed again, and nothing else is for its slot. Of votes of one ballot the lowest replica's is the first met.
func (p *Proposer) oldVote(uint64) (api.Batch, verdict) {
	var best api.Vote
promises:
	for _, q := range p.promises {
		for _, v := range q.votes {
			if v.Slot > p.next {
				continue promises
			}
			if v.Slot == p.next && ballot.Less(best.Bal, v.Bal) {
				best = v
			}
		}
	}
	if best.Bal == (api.Ballot{}) {
		return api.Batch{}, pass
	}
	p.queue = without(p.queue, best.Batch.Reqs)
	p.open = append(p.open, best.Batch.Reqs...)
	return best.Batch, take
}

// gap: a later slot may have been chosen, and it can't run ahead of this one, so this one does not wait for requests.
func (p *Proposer) gap(now uint64) (api.Batch, verdict) {
	for _, q := range p.promises {
		if n := len(q.votes); n > 0 && q.votes[n-1].Slot > p.next {
			return p.fromQueue(now), take
		}
	}
	return api.Batch{}, pass
}

// full: there are requests enough.
func (p *Proposer) full(now uint64) (api.Batch, verdict) {
	if len(p.queue) < p.group.Config().MaxBatch {
		return api.Batch{}, pass
	}
	return p.fromQueue(now), take
}

// nothingWaits: without requests there is nothing to wait for either.
func (p *Proposer) nothingWaits(uint64) (api.Batch, verdict) {
	if len(p.queue) > 0 {
		return api.Batch{}, pass
	}
	p.timed, p.until = false, 0
	return api.Batch{}, wait
}

// notFull: a few requests wait for others, but not for ever.
func (p *Proposer) notFull(now uint64) (api.Batch, verdict) {
	if !p.timed {
		p.timed, p.until = true, ballot.Add(now, p.group.Config().Delay, api.MaxTick)
	}
	if now < p.until {
		return api.Batch{}, wait
	}
	return p.fromQueue(now), take
}

// fromQueue makes a batch of the first requests that wait, as many as may go into one.
func (p *Proposer) fromQueue(now uint64) api.Batch {
	n := min(len(p.queue), p.group.Config().MaxBatch)
	reqs := slices.Clone(p.queue[:n])
	p.queue = slices.Delete(p.queue, 0, n)
	p.open = append(p.open, reqs...)
	p.timed, p.until = false, 0
	return api.Batch{Stamp: now, Reqs: reqs}
}
