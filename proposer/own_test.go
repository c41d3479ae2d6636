package proposer_test

import (
	"testing"

	"quorum/api"
	"quorum/proposer"
)

// spoilRequests writes over all that a list reaches, spare room included.
func spoilRequests(list []api.Request) {
	list = list[:cap(list)]
	for i, r := range list {
		for k := range r.Cmd[:cap(r.Cmd)] {
			r.Cmd[:cap(r.Cmd)][k] = 0xEE
		}
		list[i] = req(999, 999)
	}
}

func spoilVotes(votes []api.Vote) {
	votes = votes[:cap(votes)]
	for i, v := range votes {
		spoilRequests(v.Batch.Reqs)
		votes[i] = api.Vote{Slot: 999}
	}
}

func spoilStep(s api.Step) {
	for i := range s.Recs[:cap(s.Recs)] {
		s.Recs[:cap(s.Recs)][i] = api.Record{Kind: 99}
	}
	sends := s.Sends[:cap(s.Sends)]
	for i, send := range sends {
		spoilRequests(send.Msg.Batch.Reqs)
		spoilVotes(send.Msg.Votes)
		sends[i] = api.Send{To: 999}
	}
}

func spoilState(s api.ProposerState) {
	spoilRequests(s.Queue)
	spoilRequests(s.Open)
	spoilVotes(s.Flight)
	promises := s.Promises[:cap(s.Promises)]
	for i, q := range promises {
		spoilVotes(q.Votes)
		promises[i] = api.Promised{Node: 99}
	}
}

// loud gives requests with commands, the same ones every time.
func loud() []api.Request {
	return []api.Request{{Client: 256, Seq: 1, Cmd: []byte{1, 2, 3}}, {Client: 257, Seq: 1, Cmd: []byte{4}}, {Client: 258, Seq: 1, Cmd: []byte{5, 6}}}
}

func loudVotes() []api.Vote {
	return []api.Vote{vote(0, bal(1, 1), batch(1, api.Request{Client: 300, Seq: 1, Cmd: []byte{7}})), vote(2, bal(1, 1), batch(2, api.Request{Client: 301, Seq: 1, Cmd: []byte{8}}))}
}

// loudLeader gives one that has proposed an old vote and filled a gap: there is something in every list of its state.
func loudLeader(t testing.TB) *proposer.Proposer {
	t.Helper()
	p := leading(t, small(), 0, loudVotes(), loud()...)
	p.Nominate(1, 0)
	p.Nominate(2, 0)
	return p
}

// What is handed in is neither changed nor kept.
func TestOwnHandedIn(t *testing.T) {
	p, waiting, votes := made(t), loud(), loudVotes()
	p.Enter(bal(5, 0), waiting)
	p.Promise(1, promise(bal(5, 0), 0, votes...))
	p.Promise(2, promise(bal(5, 0), 0))
	more := []api.Request{{Client: 259, Seq: 1, Cmd: []byte{9}}}
	p.Request(more[0])
	ran := []api.Request{{Client: 260, Seq: 1, Cmd: []byte{1}}, {Client: 256, Seq: 0, Cmd: []byte{2}}}
	p.Executed(batch(1, ran...))
	if !same(waiting, loud()) || !same(votes, loudVotes()) || more[0].Cmd[0] != 9 || ran[1].Cmd[0] != 2 {
		t.Error("what was handed in is changed")
	}
	want := p.State()
	spoilRequests(waiting)
	spoilVotes(votes)
	spoilRequests(more)
	spoilRequests(ran)
	isState(t, "spoilt behind its back", p, want)
	if !same(want.Queue[:3], loud()) || want.Queue[3].Cmd[0] != 9 || !same(want.Promises[0].Votes, loudVotes()) {
		t.Errorf("told: %+v", want)
	}
	recs := []api.Record{rStart(bal(3, 0))}
	q, err := proposer.Recover(small(), 0, recs)
	if err != nil || recs[0].Bal != bal(3, 0) {
		t.Errorf("%v, %+v", err, recs)
	}
	recs[0].Bal = bal(9, 0)
	isState(t, "the records spoilt", q, api.ProposerState{Bal: bal(3, 0)})
}

// What is handed out is new: nothing that is done with it reaches the proposer.
func TestOwnHandedOut(t *testing.T) {
	p := loudLeader(t)
	want := p.State()
	spoilState(p.State())
	isState(t, "State", p, want)
	spoilStep(p.Resend())
	isState(t, "Resend", p, want)
	spoilStep(p.Nominate(3, 0)) // an old vote
	spoilStep(p.Nominate(99, 0))
	spoilStep(p.Nominate(105, 0)) // what waited
	flight := []api.Vote{vote(0, bal(5, 0), loudVotes()[0].Batch), vote(1, bal(5, 0), batch(2, loud()[:2]...)), vote(2, bal(5, 0), loudVotes()[1].Batch), vote(3, bal(5, 0), batch(105, loud()[2]))}
	open := []api.Request{loudVotes()[0].Batch.Reqs[0], loud()[0], loud()[1], loudVotes()[1].Batch.Reqs[0], loud()[2]}
	want.Flight, want.Open, want.Queue, want.Next = flight, open, nil, 4
	isState(t, "Nominate", p, want)
	q := made(t)
	spoilStep(q.Enter(bal(5, 0), loud()))
	isState(t, "Enter", q, api.ProposerState{Phase: api.Asking, Bal: bal(5, 0), Queue: loud()})
	q.Promise(0, promise(bal(5, 0), 0))
	spoilStep(q.Resend())
	q.Promise(1, promise(bal(5, 0), 0))
	spoilStep(q.Lead(0))
	isState(t, "Lead", q, api.ProposerState{Phase: api.Leading, Bal: bal(5, 0), Queue: loud(), Promises: []api.Promised{{Node: 0}, {Node: 1}}})
}

// No two messages of a step share any: each is spoilt in turn, and the others stay.
func TestOwnMessages(t *testing.T) {
	calls := map[string]func() api.Step{
		"an old vote": func() api.Step { return leading(t, small(), 0, loudVotes(), loud()...).Nominate(1, 0) },
		"a full one":  func() api.Step { return leading(t, small(), 0, nil, loud()...).Nominate(1, 0) },
		"again":       func() api.Step { return loudLeader(t).Resend() },
	}
	for what, call := range calls {
		want := call()
		for spoilt := range want.Sends {
			got := call()
			spoilRequests(got.Sends[spoilt].Msg.Batch.Reqs)
			got.Sends[spoilt] = want.Sends[spoilt]
			isStep(t, what, got, want)
		}
	}
}

// Nor do two lists of a state, nor two commands of a list.
func TestOwnLists(t *testing.T) {
	p := loudLeader(t)
	want := p.State()
	spoils := map[string]func(*api.ProposerState){
		"Queue":    func(s *api.ProposerState) { spoilRequests(s.Queue); s.Queue = want.Queue },
		"Open":     func(s *api.ProposerState) { spoilRequests(s.Open); s.Open = want.Open },
		"Flight":   func(s *api.ProposerState) { spoilVotes(s.Flight); s.Flight = want.Flight },
		"Flight 0": func(s *api.ProposerState) { spoilRequests(s.Flight[0].Batch.Reqs); s.Flight[0] = want.Flight[0] },
		"Promises": func(s *api.ProposerState) { spoilVotes(s.Promises[0].Votes); s.Promises[0] = want.Promises[0] },
		"a vote": func(s *api.ProposerState) {
			spoilRequests(s.Promises[0].Votes[0].Batch.Reqs)
			s.Promises[0].Votes[0] = want.Promises[0].Votes[0]
		},
		"a command": func(s *api.ProposerState) { spoilRequests(s.Open[:1:1]); s.Open[0] = want.Open[0] },
	}
	for what, spoil := range spoils {
		got := p.State()
		spoil(&got)
		if !same(got, want) {
			t.Errorf("%s spoilt: %+v, want %+v", what, got, want)
		}
	}
}

// What has left the queue and what is open stay apart: requests that go do not move those of a batch in flight.
func TestOwnFlight(t *testing.T) {
	c := small()
	c.MaxBatch = 3
	p := leading(t, c, 0, nil, loud()...)
	want := proposed(3, bal(5, 0), 0, batch(1, loud()...))
	isStep(t, "proposed", p.Nominate(1, 0), want)
	for _, r := range many(5) {
		p.Request(r)
	}
	p.Executed(batch(1, loud()[0]))
	p.Nominate(1, 0)
	p.Executed(batch(1, loud()[2], many(5)[1], many(5)[4]))
	isStep(t, "again", api.Step{Sends: p.Resend().Sends[:3]}, want)
	isStep(t, "the second", api.Step{Sends: p.Resend().Sends[3:]}, proposed(3, bal(5, 0), 1, batch(1, many(3)...)))
	s := p.State()
	if !same(s.Queue, many(5)[3:4]) || !same(s.Open, []api.Request{loud()[1], many(5)[0], many(5)[2]}) {
		t.Errorf("%+v", s)
	}
	q := leading(t, c, 0, loudVotes(), loud()...)
	q.Nominate(1, 0)
	q.Executed(loudVotes()[0].Batch)
	if s := q.State(); !same(s.Promises[0].Votes, loudVotes()) || !same(s.Flight[0].Batch, loudVotes()[0].Batch) || s.Open != nil {
		t.Errorf("%+v", s)
	}
}

// Two proposers share nothing.
func TestOwnTwins(t *testing.T) {
	waiting := loud()
	p, q := asking(t, waiting...), asking(t, waiting...)
	was := q.State()
	p.Executed(batch(1, loud()[0]))
	p.Promise(1, promise(bal(5, 0), 0))
	p.Promise(2, promise(bal(5, 0), 0))
	p.Lead(0)
	p.Nominate(1, 0)
	isState(t, "the other one", q, was)
}

// A proposer that is nil, or that neither call made.
func TestNobody(t *testing.T) {
	for what, p := range map[string]*proposer.Proposer{"nil": nil, "plain": {}} {
		for range 2 {
			if p.Request(r1()) || p.Promise(0, promise(bal(0, 0), 0)) || p.Promise(1, promise(bal(5, 0), 0)) {
				t.Errorf("%s: it takes something", what)
			}
			isStep(t, what, p.Enter(bal(1, 0), loud()), api.Step{})
			isStep(t, what, p.Enter(bal(1, 1), nil), api.Step{})
			isStep(t, what, p.Lead(0), api.Step{})
			isStep(t, what, p.Nominate(1, 0), api.Step{})
			isStep(t, what, p.Resend(), api.Step{})
			p.Executed(batch(1, loud()...))
			isState(t, what, p, api.ProposerState{})
		}
	}
}
