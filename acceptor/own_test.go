package acceptor_test

import (
	"testing"

	"quorum/acceptor"
	"quorum/api"
)

// spoilBatch writes over all that a batch reaches, spare room included.
func spoilBatch(b api.Batch) {
	for _, r := range b.Reqs[:cap(b.Reqs)] {
		for i := range r.Cmd[:cap(r.Cmd)] {
			r.Cmd[:cap(r.Cmd)][i] = 0xEE
		}
	}
	for i := range b.Reqs[:cap(b.Reqs)] {
		b.Reqs[:cap(b.Reqs)][i] = api.Request{Client: 999, Seq: 999}
	}
}

func spoilVotes(votes []api.Vote) {
	for i, v := range votes[:cap(votes)] {
		spoilBatch(v.Batch)
		votes[:cap(votes)][i] = api.Vote{Slot: 999}
	}
}

func spoilRecords(recs []api.Record) {
	for i, r := range recs[:cap(recs)] {
		spoilBatch(r.Batch)
		recs[:cap(recs)][i] = api.Record{Kind: 99}
	}
}

func spoilSends(sends []api.Send) {
	for i, s := range sends[:cap(sends)] {
		spoilBatch(s.Msg.Batch)
		spoilVotes(s.Msg.Votes)
		sends[:cap(sends)][i] = api.Send{To: 999}
	}
}

// What is handed in is neither changed nor kept.
func TestOwnHandedIn(t *testing.T) {
	m := api.Msg{Kind: api.KPropose, Bal: bal(1, 0), Slot: 1, Batch: two()}
	a := made(t)
	s := a.Propose(0, m)
	if !same(m.Batch, two()) {
		t.Errorf("the proposal is %+v now", m.Batch)
	}
	spoilBatch(m.Batch)
	isStep(t, "the answer", s, accepted(3, bal(1, 0), 1, two(), true))
	isState(t, "the acceptor", a, api.AcceptorState{Max: bal(1, 0), Votes: []api.Vote{vote(1, bal(1, 0), two())}, Marks: []uint64{0, 0, 0}})

	recs := []api.Record{rPromise(bal(1, 0)), rVote(bal(1, 0), 1, two()), rVote(bal(1, 0), 2, full())}
	b := recovered(t, small(), recs...)
	if !same(recs, []api.Record{rPromise(bal(1, 0)), rVote(bal(1, 0), 1, two()), rVote(bal(1, 0), 2, full())}) {
		t.Errorf("the records are %+v now", recs)
	}
	want := b.State()
	spoilRecords(recs)
	isState(t, "out of records", b, want)
	if want.Votes[0].Batch.Reqs[0].Cmd[0] != 1 {
		t.Error("the told state has turned")
	}
}

// What is handed out is new: nothing that is done with it reaches the acceptor.
func TestOwnHandedOut(t *testing.T) {
	a := voted(t)
	for what, call := range map[string]func(){
		"State":   func() { s := a.State(); spoilVotes(s.Votes); s.Marks[0], s.Marks = 99, append(s.Marks, 1) },
		"Records": func() { spoilRecords(a.Records()) },
		"Prepare": func() { spoilSends(prepare(a, 1, bal(5, 1)).Sends) },
		"Propose": func() { spoilSends(propose(a, 1, bal(5, 1), 6, five()).Sends) },
	} {
		call()
		isState(t, what, a, api.AcceptorState{Max: bal(5, 1), Low: 3, Votes: votedVotes(), Marks: []uint64{0, 0, 0}})
	}
	s := propose(a, 1, bal(5, 1), 5, full())
	spoilRecords(s.Recs)
	spoilSends(s.Sends)
	isStep(t, "a new vote", propose(a, 1, bal(5, 1), 5, full()), accepted(3, bal(5, 1), 5, full(), false))
}

// No two lists of one answer share any: each is spoilt in turn, and the others stay.
func TestOwnApart(t *testing.T) {
	want := accepted(3, bal(6, 0), 5, two(), true)
	for spoilt := range 4 {
		s := propose(voted(t), 0, bal(6, 0), 5, two())
		if spoilt == 3 {
			spoilBatch(s.Recs[0].Batch)
			isStep(t, "the record spoilt", api.Step{Sends: s.Sends}, api.Step{Sends: want.Sends})
			continue
		}
		spoilBatch(s.Sends[spoilt].Msg.Batch)
		s.Sends[spoilt].Msg.Batch = two()
		isStep(t, "a message spoilt", s, want)
	}
	for spoilt := range 3 {
		a := recovered(t, small(), rVote(bal(1, 0), 0, two()), rVote(bal(1, 0), 1, full()), rVote(bal(1, 0), 2, two()))
		votes := a.State().Votes
		told := prepare(a, 1, bal(1, 1)).Sends[0].Msg.Votes
		for _, list := range [][]api.Vote{a.State().Votes, told} {
			spoilBatch(list[spoilt].Batch)
			list[spoilt] = votes[spoilt]
			if !same(list, votes) {
				t.Errorf("vote %d spoilt: %+v", spoilt, list)
			}
		}
	}
	full := recovered(t, small(), rVote(bal(1, 0), 0, full())).State().Votes[0].Batch
	for i := range full.Reqs[0].Cmd[:cap(full.Reqs[0].Cmd)] {
		full.Reqs[0].Cmd[:cap(full.Reqs[0].Cmd)][i] = 0xEE
	}
	for _, r := range full.Reqs[1:] {
		for _, c := range r.Cmd {
			if c != 0 {
				t.Fatal("two commands share memory")
			}
		}
	}
}

// Two acceptors of one list of records share nothing.
func TestOwnTwins(t *testing.T) {
	recs := []api.Record{rVote(bal(1, 0), 1, two())}
	a, b := recovered(t, small(), recs...), recovered(t, small(), recs...)
	was := b.State()
	propose(a, 1, bal(2, 1), 7, five())
	beat(a, 1, 9)
	beat(a, 2, 9)
	a.Truncate()
	isState(t, "the other one", b, was)
}

// An acceptor that is nil, or that neither call made.
func TestNobody(t *testing.T) {
	for what, a := range map[string]*acceptor.Acceptor{"nil": nil, "plain": {}} {
		for range 2 {
			isStep(t, what, prepare(a, 0, bal(1, 0)), api.Step{})
			isStep(t, what, prepare(a, 0, bal(0, 0)), api.Step{})
			isStep(t, what, propose(a, 0, bal(1, 0), 0, two()), api.Step{})
			isStep(t, what, propose(a, 0, bal(0, 0), 0, empty()), api.Step{})
			isStep(t, what, a.Truncate(), api.Step{})
			if beat(a, 0, 1) || beat(a, 0, 0) || a.Low() != 0 || a.Records() != nil {
				t.Errorf("%s: answers something", what)
			}
			isState(t, what, a, api.AcceptorState{})
		}
	}
}
