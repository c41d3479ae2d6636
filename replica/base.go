package replica

import "quorum/api"

// executed tells the roles with whom requests wait that a batch has run.
func (r *Replica) executed(b api.Batch) {
	r.election.Executed(b)
	r.proposer.Executed(b)
}

// reached tells the roles that look ahead how far the machine is: nothing below is needed any more.
func (r *Replica) reached() {
	r.learner.Forget(r.machine.Slot())
	r.fetcher.Drop(r.machine.Slot())
}

// checkpoint makes one of where the machine is, and gives the new base of the log (P15.13).
func (r *Replica) checkpoint() []api.Record {
	slot := r.machine.Slot()
	// Neither call refuses: every machine has a snapshot, and its slot is above that of the last one and at most MaxSlot.
	snapshot, _ := r.machine.Snapshot()
	r.supplier.Put(slot, snapshot)
	r.mark = slot
	base := []api.Record{{Kind: api.RCheck, Slot: slot, Data: snapshot}}
	base = append(base, r.acceptor.Records()...)
	if b := r.proposer.State().Bal; b != (api.Ballot{}) {
		base = append(base, api.Record{Kind: api.RStart, Bal: b})
	}
	return base
}
