package replica_test

import (
	"testing"

	"quorum/api"
	"quorum/replica"
)

// Nothing runs ahead of its turn, or without a quorum's votes.
func TestP15_9NotDecided(t *testing.T) {
	r := begun(t, 1)
	idle(t, "no vote", r, api.ActRun, 0)
	decide(t, r, 0, 1, batch(1))
	idle(t, "only the next slot is decided", r, api.ActRun, 0)
	hear(t, r, 0, 2, accept(bal(1, 0), 0, batch(1)))
	idle(t, "one vote", r, api.ActRun, 0)
}

// A slot runs: the answer, the replies in their order, and what the roles let go.
func TestP15_9Run(t *testing.T) {
	r := leading(t, small())
	for _, m := range []struct {
		src api.Addr
		seq uint64
	}{{300, 1}, {301, 1}, {301, 2}, {302, 1}} {
		hear(t, r, 1, m.src, request(m.seq, 9))
	}
	hear(t, r, 1, 2, accept(bal(1, 0), 1, batch(9)))
	x := batch(4, req(301, 1, balance()...), req(300, 1, transfer(30)...), req(301, 2, balance()...), req(301, 1, balance()...), req(301, 2, 99))
	decide(t, r, 1, 0, x)
	turn(t, r, api.ActRun, 1)
	number := func(n byte) []byte { return append(make([]byte, 7), n, 0, 0, 0, 0, 0, 0, 1, 244) }
	sends := sent(301, api.Msg{Kind: api.KReply, Seq: 1, Stamp: 4, Data: number(0)})
	sends = append(sends, replied(300, 1, 4)...)
	last := sent(301, api.Msg{Kind: api.KReply, Seq: 2, Stamp: 4, Data: number(30)})
	sends = append(append(sends, last...), last...)
	changes(t, "it runs", r, api.ReplicaIn{Now: 1}, api.ReplicaOut{Ran: true, Batch: x, Sends: sends}, func(s *api.ReplicaState) {
		s.Machine = machineOf(t, x).Image()
		s.Election.This = []api.Request{req(302, 1, 9)}
		left := func(list []api.Request) []api.Request {
			var kept []api.Request
			for _, q := range list {
				if q.Client == 302 {
					kept = append(kept, q)
				}
			}
			return kept
		}
		s.Proposer.Queue, s.Proposer.Open = left(s.Proposer.Queue), left(s.Proposer.Open)
		s.Learner.Low, s.Learner.Tallies = 1, s.Learner.Tallies[1:]
	})
	idle(t, "the next one is not decided", r, api.ActRun, 1)
}

// A slot that does not end a span is no checkpoint.
func TestP15_9Every(t *testing.T) {
	for every := uint64(1); every <= 8; every++ {
		r := begunOf(t, with(func(c *api.Config) { c.Every, c.Window = every, 8 }), 1, 0)
		var batches []api.Batch
		for slot := uint64(1); slot <= 20; slot++ {
			x := batch(slot, req(300, slot, transfer(1)...))
			batches = append(batches, x)
			out := ran(t, r, slot, x)
			s := r.State()
			if !same(s.Machine, machineOf(t, batches...).Image()) || s.Learner.Low != slot || out.Recs != nil {
				t.Fatalf("slot %d: %+v", slot, s)
			}
			if slot%every != 0 {
				if out.Base != nil || s.Mark != slot/every*every || s.Supplier.Slot != s.Mark {
					t.Errorf("slot %d of %d: %+v", slot, every, out)
				}
				continue
			}
			if s.Mark != slot || s.Supplier.Slot != slot || !same(out.Base, []api.Record{check(slot, snapshotOf(t, batches...))}) {
				t.Errorf("slot %d of %d: %+v", slot, every, out)
			}
			if give := hear(t, r, slot, 0, want(slot, 0)).Sends; len(give) != 1 || !same(give[0].Msg.Data, out.Base[0].Data[:min(1024, len(out.Base[0].Data))]) {
				t.Errorf("slot %d of %d is not supplied: %+v", slot, every, give)
			}
		}
	}
}

// A batch without requests runs and answers nobody.
func TestP15_9Empty(t *testing.T) {
	r := begun(t, 1)
	decide(t, r, 0, 0, batch(3))
	turn(t, r, api.ActRun, 0)
	changes(t, "an empty batch", r, api.ReplicaIn{}, api.ReplicaOut{Ran: true, Batch: batch(3)}, func(s *api.ReplicaState) {
		s.Machine = machineOf(t, batch(3)).Image()
		s.Learner = api.LearnerState{Low: 1}
	})
}

// One slot a turn.
func TestP15_9OneATurn(t *testing.T) {
	r := begun(t, 1)
	for slot := 4; slot >= 0; slot-- {
		decide(t, r, 0, uint64(slot), batch(uint64(slot)))
	}
	for slot := range uint64(5) {
		if out := does(t, r, api.ActRun, 0); !out.Ran || out.Slot != slot || out.Batch.Stamp != slot {
			t.Errorf("slot %d: %+v", slot, out)
		}
	}
	idle(t, "all have run", r, api.ActRun, 0)
}

// At MaxSlot nothing runs any more; the last slot is a checkpoint like any other.
func TestP15_9LastSlot(t *testing.T) {
	for _, last := range []uint64{1, 2, 3} {
		c := with(func(c *api.Config) { c.MaxSlot = last })
		r := begunOf(t, c, 1, 0)
		for slot := range last {
			if out := ran(t, r, 0, batch(slot)); (out.Base != nil) != ((slot+1)%2 == 0) {
				t.Errorf("slot %d: %+v", slot, out)
			}
		}
		silent(t, "a vote past the last slot", r, 0, 1, accept(bal(1, 0), last, batch(1)))
		idle(t, "past the last slot", r, api.ActRun, 0)
	}
	r := recoveredOf(t, wide(), 1, []api.Record{check(1<<40-1, snapshotAt(t, 1<<40-1))}, 0)
	if out := ran(t, r, 0, batch(5)); len(out.Base) != 1 || out.Base[0].Slot != 1<<40 {
		t.Errorf("the last slot of all: %+v", out)
	}
	idle(t, "past the last slot of all", r, api.ActRun, 0)
}

// What has run need not be fetched any more.
func TestP15_9Drop(t *testing.T) {
	for goal := uint64(1); goal <= 3; goal++ {
		r := begun(t, 1)
		hear(t, r, 0, 2, beat(bal(1, 0), goal, false))
		for slot := range uint64(3) {
			ran(t, r, 0, batch(1))
			if s := r.State().Fetcher; (s.Goal == 0) != (slot+1 >= goal) {
				t.Errorf("goal %d behind slot %d: %+v", goal, slot, s)
			}
		}
	}
}

// full is a replica with something in every part of its base, one slot ahead of a checkpoint.
func full(t testing.TB) (*replica.Replica, []api.Batch) {
	t.Helper()
	r := leading(t, small())
	batches := []api.Batch{batch(1, req(300, 1, transfer(30)...)), batch(2), batch(3, req(301, 1, balance()...)), batch(4, req(300, 2, transfer(2)...))}
	for _, x := range batches[:3] {
		ran(t, r, 4, x)
	}
	for n := range api.Addr(2) {
		hear(t, r, 4, n, beat(bal(1, 0), 2, false))
	}
	for slot := uint64(2); slot < 6; slot++ {
		x := batch(9, req(400, slot))
		hear(t, r, 4, 0, propose(bal(1, 0), slot, x))
	}
	hear(t, r, 4, 2, prepare(bal(7, 2)))
	turn(t, r, api.ActPacket, 4)
	return r, batches
}

// A base has all that the roles need: checkpoint, promise, low, votes, start, in this order.
func TestP15_13Base(t *testing.T) {
	r, batches := full(t)
	out := ran(t, r, 5, batches[3])
	base := []api.Record{
		check(4, snapshotOf(t, batches...)),
		{Kind: api.RPromise, Bal: bal(7, 2)},
		{Kind: api.RLow, Slot: 2},
		{Kind: api.RVote, Bal: bal(1, 0), Slot: 2, Batch: batch(9, req(400, 2))},
		{Kind: api.RVote, Bal: bal(1, 0), Slot: 3, Batch: batch(9, req(400, 3))},
		{Kind: api.RVote, Bal: bal(1, 0), Slot: 4, Batch: batch(9, req(400, 4))},
		{Kind: api.RVote, Bal: bal(1, 0), Slot: 5, Batch: batch(9, req(400, 5))},
		{Kind: api.RStart, Bal: bal(1, 0)},
	}
	isOut(t, "a base", out, api.ReplicaOut{Ran: true, Slot: 3, Batch: batches[3], Sends: replied(300, 2, 4), Base: base})
	again := recoveredOf(t, small(), 0, out.Base, 5)
	a, b := r.State(), again.State()
	a.Acceptor.Marks, b.Acceptor.Marks = nil, nil
	if !same(a.Acceptor, b.Acceptor) || a.Proposer.Bal != b.Proposer.Bal || !same(a.Machine, b.Machine) || a.Mark != b.Mark || a.Supplier != b.Supplier {
		t.Errorf("from its base: %+v, want %+v", b, a)
	}
}

// The ballot of an earlier life is in the base, though nothing is led in this one.
func TestP15_13StartOfAnEarlierLife(t *testing.T) {
	r := recoveredOf(t, small(), 2, []api.Record{{Kind: api.RStart, Bal: bal(3, 2)}, {Kind: api.RStart, Bal: bal(2, 2)}}, 0)
	ran(t, r, 0, batch(1))
	out := ran(t, r, 0, batch(2))
	if !same(out.Base, []api.Record{check(2, snapshotOf(t, batch(1), batch(2))), {Kind: api.RStart, Bal: bal(3, 2)}}) {
		t.Errorf("its base: %+v", out.Base)
	}
}
