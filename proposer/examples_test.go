package proposer_test

import (
	"testing"

	"quorum/api"
	"quorum/proposer"
)

// The chapter's examples 1 to 5, one behind the other on one proposer.
func TestExamples(t *testing.T) {
	p := made(t)
	exampleOne(t, p)
	exampleTwo(t, p)
	exampleThree(t, p)
	exampleFour(t, p)
	exampleFive(t, p)
}

func exampleOne(t *testing.T, p *proposer.Proposer) {
	isFalse(t, "1, idle", p, func() bool { return p.Request(r1()) })
	isNothing(t, "1, another's", p, func() api.Step { return p.Enter(bal(1, 1), []api.Request{r1()}) })
	isStep(t, "1", p.Enter(bal(2, 0), []api.Request{r1(), r1(), s1()}), begun(3, bal(2, 0)))
	isState(t, "1", p, api.ProposerState{Phase: api.Asking, Bal: bal(2, 0), Queue: []api.Request{r1(), s1()}})
}

func exampleTwo(t *testing.T, p *proposer.Proposer) {
	if !p.Promise(1, promise(bal(2, 0), 0)) {
		t.Error("2: a promise is not taken")
	}
	isFalse(t, "2, again", p, func() bool { return p.Promise(1, promise(bal(2, 0), 0)) })
	isNothing(t, "2, one promise", p, func() api.Step { return p.Lead(0) })
	if !p.Promise(2, promise(bal(2, 0), 3, vote(4, bal(1, 1), batchA()), vote(6, bal(1, 2), batchB()))) {
		t.Error("2: the second promise is not taken")
	}
	isStep(t, "2", p.Lead(1), led(3, bal(2, 0), 3))
}

func exampleThree(t *testing.T, p *proposer.Proposer) {
	x := bal(2, 0)
	isStep(t, "3, a gap", p.Nominate(10, 3), proposed(3, x, 3, batch(10, r1(), s1())))
	isStep(t, "3, A", p.Nominate(11, 3), proposed(3, x, 4, batchA()))
	isStep(t, "3, an empty one", p.Nominate(11, 3), proposed(3, x, 5, batch(11)))
	isStep(t, "3, B", p.Nominate(12, 3), proposed(3, x, 6, batchB()))
	isNothing(t, "3, the window", p, func() api.Step { return p.Nominate(12, 3) })
	isStep(t, "3, nothing waits", p.Nominate(12, 4), api.Step{})
	open := []api.Request{r1(), s1(), batchA().Reqs[0], batchB().Reqs[0]}
	flight := []api.Vote{vote(4, x, batchA()), vote(5, x, batch(11)), vote(6, x, batchB())}
	isState(t, "3", p, api.ProposerState{Phase: api.Leading, Bal: x, Next: 7, Promises: examplePromises(), Open: open, Flight: flight})
}

func examplePromises() []api.Promised {
	return []api.Promised{{Node: 1}, {Node: 2, Low: 3, Votes: []api.Vote{vote(4, bal(1, 1), batchA()), vote(6, bal(1, 2), batchB())}}}
}

func exampleFour(t *testing.T, p *proposer.Proposer) {
	isFalse(t, "4, r1 is open", p, func() bool { return p.Request(r1()) })
	if !p.Request(r2()) {
		t.Error("4: r2 is not taken")
	}
	isStep(t, "4, timed", p.Nominate(20, 4), api.Step{})
	if s := p.State(); !s.Timed || s.Until != 25 {
		t.Errorf("4: %v, %d", s.Timed, s.Until)
	}
	isNothing(t, "4, not yet", p, func() api.Step { return p.Nominate(24, 4) })
	isStep(t, "4, its time", p.Nominate(25, 4), proposed(3, bal(2, 0), 7, batch(25, r2())))
}

func exampleFive(t *testing.T, p *proposer.Proposer) {
	x := bal(2, 0)
	p.Executed(batch(0, r2()))
	flight := []api.Vote{vote(4, x, batchA()), vote(5, x, batch(11)), vote(6, x, batchB()), vote(7, x, batch(25, r2()))}
	open := []api.Request{s1(), batchA().Reqs[0], batchB().Reqs[0]}
	isState(t, "5", p, api.ProposerState{Phase: api.Leading, Bal: x, Next: 8, Promises: examplePromises(), Open: open, Flight: flight})
	var want api.Step
	for _, v := range flight {
		want.Sends = append(want.Sends, proposed(3, x, v.Slot, v.Batch).Sends...)
	}
	isStep(t, "5, again", p.Resend(), want)
	isStep(t, "5, another leads", p.Enter(bal(2, 1), nil), api.Step{})
	isState(t, "5, another leads", p, api.ProposerState{Bal: x})
	isNothing(t, "5, begun already", p, func() api.Step { return p.Enter(x, nil) })
	isStep(t, "5, a new one", p.Enter(bal(3, 0), nil), begun(3, bal(3, 0)))
}

func TestExampleRecover(t *testing.T) {
	p, err := proposer.Recover(small(), 0, []api.Record{{Kind: api.RPromise, Bal: bal(9, 2)}, rStart(bal(2, 0)), rStart(bal(1, 0))})
	if err != nil {
		t.Fatal(err)
	}
	isState(t, "6", p, api.ProposerState{Bal: bal(2, 0)})
	p, err = proposer.Recover(small(), 0, []api.Record{rStart(bal(1, 0)), rStart(bal(2, 1))})
	isFault(t, "6", p, err, api.ErrProposerRecord, 1)
}
