package replica

import "quorum/api"

// sender says from whom messages of a kind are looked at.
type sender int

const (
	nobody  sender = iota
	client         // an address that a client has
	node           // a replica
	leader         // the replica that leads the message's ballot
	anybody        // the role that the message is for looks at the address itself
)

// hearing is who may send messages of a kind, and what is done with them.
type hearing struct {
	from sender
	do   func(*Replica, api.Addr, api.Msg) api.Step
}

// hearings gives the hearing of each kind; that of KReply is nobody's: replies are for clients.
func hearings() [api.KGive + 1]hearing {
	return [api.KGive + 1]hearing{
		api.KRequest: {client, (*Replica).hearRequest},
		api.KPrepare: {leader, (*Replica).hearPrepare},
		api.KPromise: {anybody, (*Replica).hearPromise},
		api.KLead:    {leader, (*Replica).hearLead},
		api.KPropose: {leader, (*Replica).hearPropose},
		api.KAccept:  {anybody, (*Replica).hearAccept},
		api.KBeat:    {node, (*Replica).hearBeat},
		api.KWant:    {anybody, (*Replica).hearWant},
		api.KGive:    {anybody, (*Replica).hearGive},
	}
}

// packet takes a packet, if one is there (P15.4). A leader's ballot is heard like a beat that suspects nothing.
func (r *Replica) packet(in api.ReplicaIn) api.ReplicaOut {
	if !in.Has || in.Msg.Kind < 0 || in.Msg.Kind > api.KGive {
		return api.ReplicaOut{}
	}
	h := hearings()[in.Msg.Kind]
	if !r.hears(h.from, in.Src, in.Msg.Bal) {
		return api.ReplicaOut{}
	}
	if h.from == leader {
		r.election.Beat(in.Src, api.Msg{Kind: api.KBeat, Bal: in.Msg.Bal}, r.now)
	}
	return asked(h.do(r, in.Src, in.Msg))
}

// hears tells whether an address is that of a sender; of a leader: of the one that leads this ballot.
func (r *Replica) hears(from sender, src api.Addr, b api.Ballot) bool {
	switch from {
	case client:
		return src >= api.FirstClient
	case node:
		return src < api.Addr(r.Nodes())
	case leader:
		return b.Num > 0 && r.Valid(b) && src == api.Addr(b.Node)
	}
	return from == anybody
}

// hearRequest answers a request that has run, and lets one that has not wait.
func (r *Replica) hearRequest(src api.Addr, m api.Msg) api.Step {
	if m.Seq == 0 || len(m.Cmd) > api.MaxCmd {
		return api.Step{}
	}
	reply, code := r.machine.Ask(uint64(src), m.Seq)
	switch code {
	case api.OK:
		return api.Step{Sends: []api.Send{answer(reply)}}
	case api.ErrSessionOld:
		return api.Step{}
	}
	req := api.Request{Client: uint64(src), Seq: m.Seq, Cmd: m.Cmd}
	r.election.Request(req)
	r.proposer.Request(req)
	return api.Step{}
}

func (r *Replica) hearPrepare(src api.Addr, m api.Msg) api.Step { return r.acceptor.Prepare(src, m) }

func (r *Replica) hearPropose(src api.Addr, m api.Msg) api.Step { return r.acceptor.Propose(src, m) }

func (r *Replica) hearPromise(src api.Addr, m api.Msg) api.Step {
	r.proposer.Promise(src, m)
	return api.Step{}
}

func (r *Replica) hearAccept(src api.Addr, m api.Msg) api.Step {
	r.learner.Accept(src, m)
	return api.Step{}
}

// hearLead begins to fetch, if the leader no longer has the votes that this replica lacks.
func (r *Replica) hearLead(src api.Addr, m api.Msg) api.Step { return r.aim(src, m.Low) }

// hearBeat hears a replica's view and mark. What is decided already need not be fetched: it runs.
func (r *Replica) hearBeat(src api.Addr, m api.Msg) api.Step {
	r.election.Beat(src, m, r.now)
	r.acceptor.Beat(src, m)
	if _, decided := r.learner.Decided(r.machine.Slot()); decided {
		return api.Step{}
	}
	return r.aim(src, m.Slot)
}

// aim begins to fetch a snapshot of a slot that this replica has not run up to.
func (r *Replica) aim(src api.Addr, slot uint64) api.Step {
	if slot <= r.machine.Slot() || slot > r.Config().MaxSlot {
		return api.Step{}
	}
	return api.Step{Sends: r.fetcher.Aim(src, slot, r.machine.Slot(), r.now)}
}

func (r *Replica) hearWant(src api.Addr, m api.Msg) api.Step {
	return api.Step{Sends: r.supplier.Want(src, m)}
}

func (r *Replica) hearGive(src api.Addr, m api.Msg) api.Step {
	return api.Step{Sends: r.fetcher.Give(src, m, r.now)}
}
