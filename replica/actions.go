package replica

import (
	"quorum/api"
	"quorum/ballot"
)

// actions gives at each action's number the method that does it.
func actions() [api.Actions]func(*Replica, api.ReplicaIn) api.ReplicaOut {
	return [api.Actions]func(*Replica, api.ReplicaIn) api.ReplicaOut{
		api.ActPacket:   (*Replica).packet,
		api.ActEnter:    (*Replica).enter,
		api.ActLead:     (*Replica).lead,
		api.ActNominate: (*Replica).nominate,
		api.ActTruncate: (*Replica).truncate,
		api.ActRun:      (*Replica).run,
		api.ActTimeout:  (*Replica).timeout,
		api.ActChange:   (*Replica).change,
		api.ActBeat:     (*Replica).beat,
		api.ActFetch:    (*Replica).fetch,
	}
}

// asked gives what a role's step asks for as an answer.
func asked(s api.Step) api.ReplicaOut {
	return api.ReplicaOut{Recs: s.Recs, Sends: s.Sends}
}

// enter begins the view's ballot, if it is this replica's to begin (P15.5).
func (r *Replica) enter(api.ReplicaIn) api.ReplicaOut {
	return asked(r.proposer.Enter(r.election.View(), r.election.Waiting()))
}

// lead goes over to phase 2, if there are promises enough (P15.6).
func (r *Replica) lead(api.ReplicaIn) api.ReplicaOut {
	return asked(r.proposer.Lead(r.acceptor.Low()))
}

// nominate proposes a batch for the next slot, if it may (P15.7).
func (r *Replica) nominate(api.ReplicaIn) api.ReplicaOut {
	return asked(r.proposer.Nominate(r.now, r.acceptor.Low()))
}

// truncate forgets what a quorum has in its checkpoints (P15.8).
func (r *Replica) truncate(api.ReplicaIn) api.ReplicaOut {
	return asked(r.acceptor.Truncate())
}

// run lets the machine run the next slot, if that is decided (P15.9).
func (r *Replica) run(api.ReplicaIn) api.ReplicaOut {
	slot := r.machine.Slot()
	batch, decided := r.learner.Decided(slot)
	if !decided || slot >= r.Config().MaxSlot {
		return api.ReplicaOut{}
	}
	replies, err := r.machine.Batch(batch)
	if err != nil {
		return api.ReplicaOut{}
	}
	out := api.ReplicaOut{Ran: true, Slot: slot, Batch: batch}
	for _, reply := range replies {
		out.Sends = append(out.Sends, answer(reply))
	}
	r.executed(batch)
	r.reached()
	if r.machine.Slot()%r.Config().Every == 0 {
		out.Base = r.checkpoint()
	}
	return out
}

// answer sends a reply to its client.
func answer(reply api.Reply) api.Send {
	m := api.Msg{Kind: api.KReply, Seq: reply.Seq, Stamp: reply.Stamp, Code: reply.Code, Data: reply.Data}
	return api.Send{To: api.Addr(reply.Client), Msg: m}
}

// timeout looks for the end of an epoch (P15.10).
func (r *Replica) timeout(api.ReplicaIn) api.ReplicaOut {
	r.election.Timeout(r.now)
	return api.ReplicaOut{}
}

// change goes over to the next view, if a quorum suspects this one (P15.10).
func (r *Replica) change(api.ReplicaIn) api.ReplicaOut {
	r.election.Quorum(r.now)
	return api.ReplicaOut{}
}

// beat tells all replicas of the view and the mark when it is time, and sends again what may be lost (P15.11). At MaxTick time stands still: a heartbeat would be due at each turn.
func (r *Replica) beat(api.ReplicaIn) api.ReplicaOut {
	if r.now < r.beatAt || r.now == api.MaxTick {
		return api.ReplicaOut{}
	}
	r.beatAt = ballot.Add(r.now, r.Config().Beat, api.MaxTick)
	m := api.Msg{Kind: api.KBeat, Bal: r.election.View(), Slot: r.mark, Suspect: r.election.Suspecting()}
	var sends []api.Send
	for n := range r.Nodes() {
		sends = append(sends, api.Send{To: api.Addr(n), Msg: m})
	}
	again := r.proposer.Resend()
	return api.ReplicaOut{Recs: again.Recs, Sends: append(sends, again.Sends...)}
}

// fetch takes over a snapshot that has come whole, or asks again for what is late (P15.12).
func (r *Replica) fetch(api.ReplicaIn) api.ReplicaOut {
	slot, snapshot, ready := r.fetcher.Ready()
	if !ready {
		return api.ReplicaOut{Sends: r.fetcher.Tick(r.now)}
	}
	machine, err := r.machineAt(slot, snapshot)
	if err != nil || slot <= r.machine.Slot() {
		r.fetcher.Drop(slot)
		return api.ReplicaOut{}
	}
	r.machine = machine
	for _, s := range machine.Image().Sessions {
		r.executed(api.Batch{Reqs: []api.Request{{Client: s.Client, Seq: s.Seq}}})
	}
	r.reached()
	return api.ReplicaOut{Installed: true, Slot: slot, Base: r.checkpoint()}
}
