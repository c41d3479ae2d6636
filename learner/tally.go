package learner

import (
	"bytes"
	"slices"

	"quorum/api"
)

// tally is who has voted in a slot under one ballot, and for which batch. Votes under lower ballots are let go: should a quorum of them be there, the leader of the higher one proposes their batch again.
type tally struct {
	bal   api.Ballot
	from  api.NodeSet
	batch api.Batch
}

// done tells whether a quorum is in a tally.
func (l *Learner) done(t tally) bool { return l.Majority(t.from) }

// counts tells whether a message is a vote that may be and for a slot that is not too far away.
func (l *Learner) counts(src api.Addr, m api.Msg) bool {
	switch {
	case m.Kind != api.KAccept, src >= api.Addr(l.Nodes()):
		return false
	case m.Bal.Num == 0, !l.Valid(m.Bal):
		return false
	case m.Slot < l.low, m.Slot >= l.low+ahead, m.Slot >= l.Config().MaxSlot:
		return false
	}
	return validBatch(m.Batch)
}

// validBatch tells whether a leader may have proposed so.
func validBatch(b api.Batch) bool {
	wrong := func(r api.Request) bool {
		return r.Client < uint64(api.FirstClient) || r.Seq == 0 || len(r.Cmd) > api.MaxCmd
	}
	return b.Stamp <= api.MaxTick && len(b.Reqs) <= api.MaxReqs && !slices.ContainsFunc(b.Reqs, wrong)
}

// twin gives the same batch in new memory; what is empty in it is nil.
func twin(b api.Batch) api.Batch {
	var reqs []api.Request
	for _, r := range b.Reqs {
		r.Cmd = append([]byte(nil), r.Cmd...)
		reqs = append(reqs, r)
	}
	b.Reqs = reqs
	return b
}

// alike tells whether two batches are the same.
func alike(a, b api.Batch) bool {
	return a.Stamp == b.Stamp && slices.EqualFunc(a.Reqs, b.Reqs, sameRequest)
}

func sameRequest(a, b api.Request) bool {
	return a.Client == b.Client && a.Seq == b.Seq && bytes.Equal(a.Cmd, b.Cmd)
}
