package learner_test

import (
	"testing"

	"quorum/api"
	"quorum/learner"
)

// spoilBatch writes over all that a batch reaches, spare room included.
func spoilBatch(b api.Batch) {
	for _, r := range b.Reqs[:cap(b.Reqs)] {
		for i := range r.Cmd[:cap(r.Cmd)] {
			r.Cmd[:cap(r.Cmd)][i] = 0xEE
		}
	}
	for i := range b.Reqs[:cap(b.Reqs)] {
		b.Reqs[:cap(b.Reqs)][i] = api.Request{Client: 999, Seq: 999}
	}
}

func spoilState(s api.LearnerState) {
	for i, x := range s.Tallies[:cap(s.Tallies)] {
		spoilBatch(x.Batch)
		s.Tallies[:cap(s.Tallies)][i] = api.LearnerTally{Slot: 999}
	}
}

// What is handed in is neither changed nor kept, be it the first vote or one that joins.
func TestOwnHandedIn(t *testing.T) {
	for _, b := range []func() api.Batch{batchB, fullBatch} {
		l := made(t)
		for n := range api.Addr(3) {
			m := accept(bal(1, 0), 4, b())
			l.Accept(n, m)
			if !same(m, accept(bal(1, 0), 4, b())) {
				t.Errorf("the message is %+v now", m)
			}
			spoilBatch(m.Batch)
			isState(t, "the learner", l, state(0, tally(4, bal(1, 0), []api.NodeSet{1, 3, 3}[n], b(), n > 0)))
		}
		isDecided(t, "the batch", l, 4, b())
	}
}

// What is handed out is new: nothing that is done with it reaches the learner, or another answer.
func TestOwnHandedOut(t *testing.T) {
	for _, b := range []func() api.Batch{batchB, fullBatch} {
		l := made(t)
		for slot := range uint64(3) {
			l.Accept(0, accept(bal(1, 0), slot, b()))
			l.Accept(2, accept(bal(1, 0), slot, b()))
		}
		want := l.State()
		first, _ := l.Decided(1)
		spoilState(l.State())
		second, _ := l.Decided(1)
		spoilBatch(second)
		isState(t, "the learner", l, want)
		isDecided(t, "the batch", l, 1, b())
		if !same(first, b()) {
			t.Errorf("what was told has turned: %+v", first)
		}
	}
}

// No two lists of one answer share any.
func TestOwnApart(t *testing.T) {
	l := made(t)
	for slot := range uint64(5) {
		l.Accept(0, accept(bal(1, 0), slot, fullBatch()))
		l.Accept(1, accept(bal(1, 0), slot, fullBatch()))
	}
	want := l.State()
	for spoilt := range want.Tallies {
		got := l.State()
		spoilBatch(got.Tallies[spoilt].Batch)
		got.Tallies[spoilt].Batch = fullBatch()
		if !same(got, want) {
			t.Errorf("tally %d spoilt: %+v", spoilt, got)
		}
	}
	for spoilt := range api.MaxReqs {
		b, _ := l.Decided(2)
		cmd := b.Reqs[spoilt].Cmd
		for i := range cmd[:cap(cmd)] {
			cmd[:cap(cmd)][i] = 0xEE
		}
		b.Reqs[spoilt] = fullBatch().Reqs[spoilt]
		if !same(b, fullBatch()) {
			t.Errorf("command %d spoilt", spoilt)
		}
	}
}

// Two learners share nothing.
func TestOwnTwins(t *testing.T) {
	a, b := made(t), made(t)
	m := accept(bal(1, 0), 0, batchB())
	a.Accept(0, m)
	b.Accept(0, m)
	was := b.State()
	a.Accept(1, m)
	a.Forget(9)
	isState(t, "the other one", b, was)
}

// A learner that is nil, or that New did not make.
func TestNobody(t *testing.T) {
	for what, l := range map[string]*learner.Learner{"nil": nil, "plain": {}} {
		for range 2 {
			for n := range api.Addr(2) {
				leaves(t, what, l, n, accept(bal(1, 0), 0, batchB()))
				leaves(t, what, l, n, accept(bal(0, 0), 0, api.Batch{}))
			}
			l.Forget(0)
			l.Forget(7)
			l.Forget(1<<64 - 1)
			isOpen(t, what, l, 0)
			isState(t, what, l, api.LearnerState{})
		}
	}
}
