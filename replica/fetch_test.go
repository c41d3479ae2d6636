package replica_test

import (
	"testing"

	"quorum/api"
	"quorum/replica"
)

// fetched lets a replica fetch what replica 1 holds for the snapshot of a slot; it is there whole then, but action 9 has not come yet.
func fetched(t testing.TB, r *replica.Replica, now, slot uint64, data []byte) {
	t.Helper()
	if out := hear(t, r, now, 1, beat(bal(1, 0), slot, false)); !same(out.Sends, sent(1, want(slot, 0))) {
		t.Fatalf("slot %d is not asked for: %+v", slot, out)
	}
	for _, m := range supplied(t, slot, data) {
		hear(t, r, now, 1, m)
	}
	s := r.State().Fetcher
	if s.Goal != slot || uint64(len(s.Chunks)) != s.Count || s.Count == 0 {
		t.Fatalf("slot %d is not there: %+v", slot, s)
	}
}

// A snapshot that has come whole is taken over: machine, mark, supplier and base are its, and the roles let go what it has run.
func TestP15_12TakenOver(t *testing.T) {
	r := leading(t, small())
	hear(t, r, 1, 2, propose(bal(1, 2), 1, batch(5)))
	hear(t, r, 1, 0, beat(bal(2, 0), 0, false)) // a ballot of its own again: what it asks for waits from now on
	does(t, r, api.ActEnter, 1)
	for _, m := range []struct {
		src api.Addr
		seq uint64
	}{{300, 1}, {300, 2}, {300, 3}, {301, 7}, {302, 1}} {
		hear(t, r, 1, m.src, request(m.seq, 9))
	}
	for _, slot := range []uint64{0, 3, 8, 9} {
		hear(t, r, 1, 2, accept(bal(1, 2), slot, batch(6)))
	}
	sessions := []api.Session{{Client: 300, Seq: 2, Stamp: 3}, {Client: 301, Seq: 9, Stamp: 8, Code: 5, Data: []byte{1}}, {Client: 400, Seq: 1}}
	data := snapshotAt(t, 8, sessions...)
	fetched(t, r, 1, 8, data)
	supply := begun(t, 2)
	fetched(t, supply, 1, 8, data)
	does(t, supply, api.ActFetch, 1)
	turn(t, r, api.ActFetch, 1)
	left := []api.Request{req(300, 3, 9), req(302, 1, 9)}
	base := []api.Record{
		check(8, data),
		{Kind: api.RPromise, Bal: bal(1, 2)},
		{Kind: api.RVote, Bal: bal(1, 2), Slot: 1, Batch: batch(5)},
		{Kind: api.RStart, Bal: bal(2, 0)},
	}
	changes(t, "taken over", r, api.ReplicaIn{Now: 1}, api.ReplicaOut{Installed: true, Slot: 8, Base: base}, func(s *api.ReplicaState) {
		s.Machine.Slot, s.Machine.Now, s.Machine.Sessions = 8, 8, sessions
		s.Mark = 8
		s.Supplier = supply.State().Supplier
		s.Fetcher = api.FetcherState{}
		s.Learner = api.LearnerState{Low: 8, Tallies: s.Learner.Tallies[2:]}
		s.Election.This, s.Proposer.Queue = left, left
	})
	if s := r.State(); s.Supplier.Slot != 8 || len(s.Learner.Tallies) != 2 || s.Election.Prev != nil {
		t.Errorf("taken over: %+v", s)
	}
	idle(t, "nothing is fetched any more", r, api.ActFetch, 100)
	if out := hear(t, r, 100, 301, request(9)); !same(out.Sends, sent(301, api.Msg{Kind: api.KReply, Seq: 9, Stamp: 8, Code: 5, Data: []byte{1}})) {
		t.Errorf("a reply that came with it: %+v", out)
	}
}

// Requests that were proposed already are let go too.
func TestP15_12Open(t *testing.T) {
	r := leading(t, small())
	for _, src := range []api.Addr{300, 301} {
		hear(t, r, 1, src, request(1, 9))
		does(t, r, api.ActNominate, 1)
	}
	if open := r.State().Proposer.Open; len(open) != 2 {
		t.Fatalf("proposed: %+v", open)
	}
	fetched(t, r, 1, 4, snapshotAt(t, 4, api.Session{Client: 301, Seq: 1}))
	does(t, r, api.ActFetch, 1)
	if s := r.State(); !same(s.Proposer.Open, []api.Request{req(300, 1, 9)}) || !same(s.Election.This, []api.Request{req(300, 1, 9)}) {
		t.Errorf("taken over: %+v", s)
	}
}

// A snapshot of several chunks, and of any slot up to the last one, a checkpoint's or not.
func TestP15_12Slots(t *testing.T) {
	var sessions []api.Session
	for i := range uint64(api.MaxClients) {
		sessions = append(sessions, api.Session{Client: 400 + i, Seq: 1, Data: bytesOf(api.MaxData)})
	}
	for _, slot := range []uint64{1, 2, 3, 999, 1000} {
		r := begun(t, 0)
		data := snapshotAt(t, slot, sessions...)
		if len(data) < 3*api.ChunkSize {
			t.Fatalf("only %d bytes", len(data))
		}
		fetched(t, r, 1, slot, data)
		out := does(t, r, api.ActFetch, 1)
		isOut(t, "taken over", out, api.ReplicaOut{Installed: true, Slot: slot, Base: []api.Record{check(slot, data), {Kind: api.RStart, Bal: bal(1, 0)}}})
		s := r.State()
		if s.Mark != slot || s.Learner.Low != slot || !same(s.Machine.Sessions, sessions) {
			t.Errorf("slot %d: %+v", slot, s)
		}
		if m := hear(t, r, 1, 2, want(slot, 2)).Sends; len(m) != 1 || !same(m[0].Msg.Data, data[2048:3072]) {
			t.Errorf("slot %d is not supplied: %+v", slot, m)
		}
		again := recoveredOf(t, small(), 0, out.Base, 1).State()
		if !same(again.Machine, s.Machine) || again.Mark != slot {
			t.Errorf("slot %d, begun again: %+v", slot, again)
		}
	}
}

// Behind a snapshot the next slot is the snapshot's.
func TestP15_12RunsOn(t *testing.T) {
	r := begun(t, 2)
	decide(t, r, 1, 9, batch(20, req(300, 4, transfer(30)...)))
	decide(t, r, 1, 8, batch(19, req(300, 3, transfer(30)...), req(300, 2, transfer(30)...)))
	fetched(t, r, 1, 8, snapshotAt(t, 8, api.Session{Client: 300, Seq: 2, Stamp: 7}))
	does(t, r, api.ActFetch, 1)
	isOut(t, "slot 8", does(t, r, api.ActRun, 1), api.ReplicaOut{Ran: true, Slot: 8, Batch: batch(19, req(300, 3, transfer(30)...), req(300, 2, transfer(30)...)), Sends: replied(300, 3, 19)})
	if out := does(t, r, api.ActRun, 1); !out.Ran || out.Slot != 9 || len(out.Base) == 0 || out.Base[0].Slot != 10 {
		t.Errorf("slot 9: %+v", out)
	}
}

// What is no snapshot, or one of another slot, is let go, and nothing else changes.
func TestP15_12LetGo(t *testing.T) {
	good := snapshotAt(t, 8)
	for what, data := range map[string][]byte{
		"one byte":       {1},
		"any bytes":      bytesOf(3000),
		"a byte less":    good[:len(good)-1],
		"a byte more":    append(append([]byte(nil), good...), 0),
		"a lower slot":   snapshotAt(t, 7),
		"slot 0":         snapshotOf(t),
		"a higher slot":  snapshotAt(t, 9),
		"a slot too far": snapshotAt(t, 1001),
	} {
		r := behindThree(t, 0, false)
		fetched(t, r, 1, 8, data)
		turn(t, r, api.ActFetch, 1)
		changes(t, what, r, api.ReplicaIn{Now: 1}, api.ReplicaOut{}, func(s *api.ReplicaState) {
			s.Fetcher = api.FetcherState{}
		})
		fetched(t, r, 2, 10, snapshotAt(t, 10))
		if out := does(t, r, api.ActFetch, 2); !out.Installed || out.Slot != 10 {
			t.Errorf("%s, then a good one: %+v", what, out)
		}
	}
}

// What is late is asked for again, from the next one; nothing without a goal.
func TestP15_12Late(t *testing.T) {
	r := begun(t, 0)
	idle(t, "no goal", r, api.ActFetch, 50)
	hear(t, r, 50, 1, beat(bal(1, 0), 8, false))
	idle(t, "not late yet", r, api.ActFetch, 59)
	turn(t, r, api.ActFetch, 59)
	changes(t, "late", r, api.ReplicaIn{Now: 60}, api.ReplicaOut{Sends: sent(2, want(8, 0))}, func(s *api.ReplicaState) {
		s.Fetcher.From, s.Fetcher.Last = 2, 60
	})
	idle(t, "asked again", r, api.ActFetch, 69)
	turn(t, r, api.ActFetch, 69)
	changes(t, "late again", r, api.ReplicaIn{Now: 75}, api.ReplicaOut{Sends: sent(1, want(8, 0))}, func(s *api.ReplicaState) {
		s.Fetcher.From, s.Fetcher.Last = 1, 75
	})
}
