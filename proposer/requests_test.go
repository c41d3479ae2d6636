package proposer_test

import (
	"testing"

	"quorum/api"
	"quorum/proposer"
)

func TestP11_3Idle(t *testing.T) {
	p := made(t)
	isFalse(t, "new", p, func() bool { return p.Request(r1()) })
	p.Enter(bal(1, 0), nil)
	p.Enter(bal(1, 1), nil)
	isFalse(t, "idle again", p, func() bool { return p.Request(r1()) })
}

// In both phases a request waits, and a wrong or an old one does not.
func TestP11_3Request(t *testing.T) {
	for what, p := range map[string]*proposer.Proposer{"asking": asking(t), "leading": leading(t, small(), 0, nil)} {
		for why, r := range badRequests() {
			isFalse(t, what+": "+why, p, func() bool { return p.Request(r) })
		}
		var want []api.Request
		for _, r := range []api.Request{req(256, 3), req(257, 1), {Client: 300, Seq: 1<<64 - 2, Cmd: []byte{7}}, fullRequest(), req(256, 4), req(256, 1<<64-1)} {
			was := p.State()
			if !p.Request(r) {
				t.Errorf("%s: %v is not taken", what, r.Seq)
			}
			want = append(want, r)
			was.Queue = want
			isState(t, what, p, was)
		}
		for _, r := range []api.Request{req(256, 3), req(256, 2), req(256, 1), req(256, 4), req(257, 1), req(300, 1), {Client: 300, Seq: 1<<64 - 2}, fullRequest()} {
			isFalse(t, what+": superseded", p, func() bool { return p.Request(r) })
		}
		if !p.Request(req(300, 1<<64-1)) {
			t.Errorf("%s: one above is not taken", what)
		}
	}
}

// What is open counts as what waits does; what is open in a vote that was taken over, too.
func TestP11_3Open(t *testing.T) {
	p := leading(t, small(), 0, []api.Vote{vote(0, bal(1, 1), batchB())}, r2(), s1())
	p.Nominate(1, 0)
	p.Nominate(1, 0)
	if s := p.State(); len(s.Open) != 3 || s.Queue != nil {
		t.Fatalf("%+v", s)
	}
	for _, r := range []api.Request{req(300, 1), req(300, 2), req(256, 1), req(256, 2), s1()} {
		isFalse(t, "open", p, func() bool { return p.Request(r) })
	}
	for _, r := range []api.Request{req(300, 3), req(256, 3), req(257, 2), req(258, 1)} {
		if !p.Request(r) {
			t.Errorf("%v is not taken", r)
		}
	}
}

func TestP11_3Full(t *testing.T) {
	p := asking(t)
	for i, r := range many(api.MaxWaiting) {
		if !p.Request(r) {
			t.Errorf("request %d is not taken", i)
		}
	}
	isFalse(t, "one more", p, func() bool { return p.Request(r1()) })
	p.Executed(batch(0, many(1)...))
	if !p.Request(r1()) {
		t.Error("where one has gone there is room")
	}
	isFalse(t, "one more again", p, func() bool { return p.Request(s1()) })
	isState(t, "full", p, api.ProposerState{Phase: api.Asking, Bal: bal(5, 0), Queue: append(many(api.MaxWaiting)[1:], r1())})
}

// nil and empty commands are the same, and told as nil.
func TestP11_3NilAndEmpty(t *testing.T) {
	p := asking(t)
	p.Request(api.Request{Client: 256, Seq: 1, Cmd: []byte{}})
	isState(t, "an empty command", p, api.ProposerState{Phase: api.Asking, Bal: bal(5, 0), Queue: []api.Request{r1()}})
}

func TestP11_4Nothing(t *testing.T) {
	for what, p := range map[string]*proposer.Proposer{"asking": asking(t, r1()), "leading": leading(t, small(), 3, nil, r1())} {
		for why, v := range badBallots() {
			isNothing(t, what+": "+why, p, func() api.Step { return p.Enter(v, many(2)) })
		}
		for _, v := range []api.Ballot{bal(5, 0), bal(4, 2), bal(4, 0), bal(1, 1), bal(1, 0)} {
			isNothing(t, what+": not above", p, func() api.Step { return p.Enter(v, many(2)) })
		}
	}
	p := made(t)
	for why, v := range badBallots() {
		isNothing(t, why, p, func() api.Step { return p.Enter(v, many(2)) })
	}
}

// Another's view ends whatever there was; the ballot stays, and is not the view.
func TestP11_4Other(t *testing.T) {
	for _, v := range []api.Ballot{bal(5, 1), bal(5, 2), bal(6, 1), bal(50, 2)} {
		for what, p := range map[string]*proposer.Proposer{"asking": asking(t, r1()), "leading": timed(t)} {
			isStep(t, what, p.Enter(v, many(2)), api.Step{})
			isState(t, what, p, api.ProposerState{Bal: bal(5, 0)})
			isNothing(t, what+": once more", p, func() api.Step { return p.Enter(v, many(2)) })
			isStep(t, what+": then its own", p.Enter(bal(6, 0), nil), begun(3, bal(6, 0)))
		}
	}
}

// timed gives a leader of small() of which every field of the state is filled.
func timed(t testing.TB) *proposer.Proposer {
	t.Helper()
	p := leading(t, small(), 3, []api.Vote{vote(3, bal(1, 1), batchA())}, r1(), s1(), req(258, 1))
	p.Nominate(7, 3)
	p.Nominate(8, 3)
	p.Nominate(9, 3)
	want := api.ProposerState{Phase: api.Leading, Bal: bal(5, 0), Next: 5, Timed: true, Until: 14,
		Promises: []api.Promised{{Node: 1, Low: 3, Votes: []api.Vote{vote(3, bal(1, 1), batchA())}}, {Node: 2}},
		Queue:    []api.Request{req(258, 1)}, Open: []api.Request{batchA().Reqs[0], r1(), s1()},
		Flight: []api.Vote{vote(3, bal(5, 0), batchA()), vote(4, bal(5, 0), batch(8, r1(), s1()))}}
	isState(t, "timed", p, want)
	return p
}

// A view of its own begins anew, whatever there was.
func TestP11_4Own(t *testing.T) {
	for what, p := range map[string]*proposer.Proposer{"new": made(t), "asking": asking(t, r1()), "leading": timed(t)} {
		isStep(t, what, p.Enter(bal(6, 0), []api.Request{s1(), r2()}), begun(3, bal(6, 0)))
		isState(t, what, p, api.ProposerState{Phase: api.Asking, Bal: bal(6, 0), Queue: []api.Request{s1(), r2()}})
		isStep(t, what+": with nothing", p.Enter(bal(50, 0), nil), begun(3, bal(50, 0)))
		isState(t, what+": with nothing", p, api.ProposerState{Phase: api.Asking, Bal: bal(50, 0)})
	}
	for f := 1; f <= api.MaxF; f++ {
		for self := range 2*f + 1 {
			isStep(t, "all replicas", madeOf(t, withF(f), self).Enter(bal(1, self), nil), begun(2*f+1, bal(1, self)))
		}
	}
	isStep(t, "the only ballot", madeOf(t, narrow(), 2).Enter(bal(1, 2), nil), begun(3, bal(1, 2)))
	most := uint64(1 << 40)
	isStep(t, "the last ballot", madeOf(t, wide(), 6).Enter(bal(most, 6), nil), begun(7, bal(most, 6)))
}

// Of those that wait it takes what Request would take.
func TestP11_4Waiting(t *testing.T) {
	waiting := []api.Request{r2(), r1(), s1(), r2(), req(256, 3), s1(), req(257, 2)}
	for _, r := range badRequests() {
		waiting = append(waiting, r)
	}
	waiting = append(waiting, fullRequest())
	p := asking(t, waiting...)
	isState(t, "old and wrong ones", p, api.ProposerState{Phase: api.Asking, Bal: bal(5, 0), Queue: []api.Request{r2(), s1(), req(256, 3), req(257, 2), fullRequest()}})
	p = asking(t, append(append([]api.Request{r1(), r1(), {}}, many(31)...), s1(), r2())...)
	isState(t, "too many", p, api.ProposerState{Phase: api.Asking, Bal: bal(5, 0), Queue: append([]api.Request{r1()}, many(31)...)})
}

func TestP11_8Executed(t *testing.T) {
	queue := []api.Request{req(256, 5), req(257, 1), req(256, 6), req(258, 3)}
	for _, c := range []struct {
		ran  []api.Request
		want []api.Request
	}{
		{nil, queue},
		{[]api.Request{req(256, 4), req(257, 0), req(258, 2), req(259, 9)}, queue},
		{[]api.Request{req(256, 5)}, []api.Request{req(257, 1), req(256, 6), req(258, 3)}},
		{[]api.Request{req(256, 6)}, []api.Request{req(257, 1), req(258, 3)}},
		{[]api.Request{req(258, 1<<64-1), req(257, 1)}, []api.Request{req(256, 5), req(256, 6)}},
		{[]api.Request{req(256, 9), req(257, 9), req(258, 3)}, nil},
	} {
		p := asking(t, queue...)
		p.Executed(batch(1<<50, c.ran...))
		isState(t, "those that wait", p, api.ProposerState{Phase: api.Asking, Bal: bal(5, 0), Queue: c.want})

		wider := small()
		wider.MaxBatch = 4
		p = leading(t, wider, 0, nil, queue...)
		p.Nominate(1, 0)
		was := p.State()
		if !same(was.Open, queue) {
			t.Fatalf("open: %+v", was.Open)
		}
		p.Executed(batch(1<<50, c.ran...))
		was.Open = c.want
		isState(t, "those that are open", p, was)
	}
}

// Whatever the batch is: what is wrong in it does no harm, and what it supersedes goes all the same.
func TestP11_8Whatever(t *testing.T) {
	for what, b := range badBatches() {
		p := timed(t)
		b.Reqs = append(append([]api.Request{}, b.Reqs...), req(258, 1))
		want := p.State()
		want.Queue, want.Open = left(want.Queue, b.Reqs), left(want.Open, b.Reqs)
		if want.Queue != nil {
			t.Fatal("a request still waits")
		}
		p.Executed(b)
		isState(t, what, p, want)
	}
	p := made(t)
	p.Executed(batch(0, many(9)...))
	isState(t, "idle", p, api.ProposerState{})
	q := timed(t)
	was := q.State()
	q.Executed(api.Batch{})
	isState(t, "the empty batch", q, was)
}
