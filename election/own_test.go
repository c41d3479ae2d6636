package election_test

import (
	"testing"

	"quorum/api"
	"quorum/election"
)

// spoil writes over all that a list reaches, spare room included.
func spoil(reqs []api.Request) {
	for i, r := range reqs[:cap(reqs)] {
		for k := range r.Cmd[:cap(r.Cmd)] {
			r.Cmd[:cap(r.Cmd)][k] = 0xEE
		}
		reqs[:cap(reqs)][i] = api.Request{Client: 999, Seq: 999}
	}
}

// What is handed in is neither changed nor kept.
func TestOwnHandedIn(t *testing.T) {
	e := made(t)
	for _, r := range many(300, 5) {
		in := append(make([]api.Request, 0, 9), r)
		e.Request(in[0])
		if !same(in[0], r) {
			t.Errorf("the request is %+v now", in[0])
		}
		spoil(in)
	}
	want := api.ElectionState{View: bal(1, 0), Length: 10, EpochEnd: 15, This: many(300, 5)}
	isState(t, "the requests", e, 0, want)
	in := append(make([]api.Request, 0, 9), req(302, 1, 2), req(304, 1, 4), req(302, 1, 2))
	b := api.Batch{Reqs: in}
	e.Executed(b)
	if !same(b.Reqs, list(req(302, 1, 2), req(304, 1, 4), req(302, 1, 2))) {
		t.Errorf("the batch is %+v now", b)
	}
	spoil(in)
	want.This = list(req(300, 1, 0), req(301, 1, 1), req(303, 1, 3))
	isState(t, "the batch", e, 0, want)
	recs := append(make([]api.Record, 0, 9), api.Record{Kind: api.RVote, Bal: bal(2, 1), Batch: ran(many(300, 2)...)}, api.Record{Kind: api.RStart, Bal: bal(1, 1)})
	e, _ = election.Recover(small(), 0, 5, recs)
	if !same(recs, []api.Record{{Kind: api.RVote, Bal: bal(2, 1), Batch: ran(many(300, 2)...)}, {Kind: api.RStart, Bal: bal(1, 1)}}) {
		t.Errorf("the records are %+v now", recs)
	}
	recs[0], recs[1] = api.Record{}, api.Record{}
	isState(t, "the records", e, 0, api.ElectionState{View: bal(2, 1), Length: 10, EpochEnd: 15})
}

// What is handed out is new: nothing that is done with it reaches the election, or another answer.
func TestOwnHandedOut(t *testing.T) {
	e := filled(t)
	firstState, firstWaiting := e.State(), e.Waiting()
	s := e.State()
	spoil(s.Prev)
	spoil(s.This)
	isState(t, "a state is spoilt", e, 0, filledState())
	spoil(e.Waiting())
	isState(t, "what waits is spoilt", e, 0, filledState())
	if !same(firstState, filledState()) || !same(firstWaiting, e.Waiting()) {
		t.Error("what was told has turned")
	}
	e.Executed(ran(req(301, 1), req(400, 1), req(402, 1)))
	e.Quorum(40)
	asked(t, e, many(600, 20)...)
	e.Timeout(90)
	if !same(firstState, filledState()) || !same(firstWaiting, append(filledState().Prev, filledState().This...)) {
		t.Error("what was told has turned with the election")
	}
}

// No two lists of one answer share any.
func TestOwnApart(t *testing.T) {
	e := filled(t)
	s := e.State()
	spoil(s.Prev)
	if !same(s.This, filledState().This) {
		t.Errorf("prev spoilt: %+v", s.This)
	}
	s = e.State()
	spoil(s.This)
	if !same(s.Prev, filledState().Prev) {
		t.Errorf("this spoilt: %+v", s.Prev)
	}
	for spoilt := range 8 {
		w := e.Waiting()
		spoil(w[spoilt : spoilt+1 : spoilt+1])
		w[spoilt] = e.Waiting()[spoilt]
		if !same(w, e.Waiting()) {
			t.Errorf("request %d spoilt", spoilt)
		}
	}
}

// Two elections share nothing.
func TestOwnTwins(t *testing.T) {
	a, b := madeOf(t, withF(1), 0, 5), madeOf(t, withF(1), 0, 5)
	for _, r := range many(300, 9) {
		a.Request(r)
		b.Request(r)
	}
	was := b.State()
	a.Executed(ran(many(300, 3)...))
	a.Timeout(20)
	a.Timeout(40)
	a.Beat(1, beat(bal(1, 0), true), 41)
	a.Quorum(41)
	isState(t, "the other one", b, 0, was)
}

// Epoch by epoch, requests come and run: none of what waits is ever written over by what comes behind it.
func TestOwnLists(t *testing.T) {
	e := made(t)
	seq := uint64(0)
	for now := uint64(15); now < 400; now += 10 {
		var heard []api.Request
		for range 7 {
			seq++
			heard = append(heard, req(300+seq, 1, byte(seq)))
		}
		asked(t, e, heard...)
		e.Timeout(now)
		if w := e.Waiting(); len(w) < 7 || !same(w[len(w)-7:], heard) {
			t.Fatalf("at %d: %+v, heard %+v", now, w, heard)
		}
		for i, r := range e.Waiting() {
			if r.Cmd[0] != byte(r.Client-300) {
				t.Fatalf("at %d: request %d is %+v", now, i, r)
			}
		}
		e.Executed(ran(heard[0], heard[2], heard[3], heard[6], req(300+seq-8, 1), req(300+seq-9, 1), req(300+seq-12, 1)))
	}
}

// An election that is nil, or that neither New nor Recover made.
func TestNobody(t *testing.T) {
	group := made(t).Group
	for what, e := range map[string]*election.Election{"nil": nil, "plain": {}, "with a group": {Group: group}} {
		for range 2 {
			for _, r := range []api.Request{req(300, 1), {}} {
				stays(t, what, e, func() bool { return e.Request(r) })
				e.Executed(ran(r))
			}
			for _, now := range []uint64{0, 1, 1 << 40, 1<<64 - 1} {
				for src := range api.Addr(3) {
					stays(t, what, e, func() bool { return e.Beat(src, beat(bal(0, 0), true), now) })
					stays(t, what, e, func() bool { return e.Beat(src, beat(bal(1, 1), true), now) })
				}
				stays(t, what, e, func() bool { return e.Timeout(now) })
				stays(t, what, e, func() bool { return e.Quorum(now) })
			}
			isState(t, what, e, 0, api.ElectionState{})
			if e.Waiting() != nil {
				t.Errorf("%s: something waits", what)
			}
		}
	}
}
