package acceptor_test

import (
	"testing"

	"quorum/acceptor"
	"quorum/api"
)

// The chapter's examples 1 to 6, one behind the other on one acceptor.
func TestExamples(t *testing.T) {
	a := made(t)
	exampleOne(t, a)
	exampleTwo(t, a)
	exampleThree(t, a)
	votes := []api.Vote{vote(3, bal(2, 1), empty()), vote(6, bal(2, 2), five())}
	isStep(t, "4", prepare(a, 0, bal(3, 0)), promised(0, bal(3, 0), 3, true, votes...))
	exampleFive(t, a)
	want := []api.Record{rPromise(bal(3, 0)), rLow(4), rVote(bal(2, 2), 6, five())}
	if got := a.Records(); !same(got, want) {
		t.Errorf("6: %+v, want %+v", got, want)
	}
}

func exampleOne(t *testing.T, a *acceptor.Acceptor) {
	isStep(t, "1", prepare(a, 1, bal(2, 1)), promised(1, bal(2, 1), 0, true))
	isStep(t, "1, once more", prepare(a, 1, bal(2, 1)), promised(1, bal(2, 1), 0, false))
	isNothing(t, "1, a lower one", a, func() api.Step { return prepare(a, 0, bal(1, 0)) })
	isNothing(t, "1, 2 does not lead it", a, func() api.Step { return prepare(a, 2, bal(3, 1)) })
	isNothing(t, "1, {0 0}", a, func() api.Step { return prepare(a, 0, bal(0, 0)) })
	isNothing(t, "1, {101 0}", a, func() api.Step { return prepare(a, 0, bal(101, 0)) })
}

func exampleTwo(t *testing.T, a *acceptor.Acceptor) {
	isStep(t, "2", propose(a, 1, bal(2, 1), 3, empty()), accepted(3, bal(2, 1), 3, empty(), true))
	isStep(t, "2, once more", propose(a, 1, bal(2, 1), 3, empty()), accepted(3, bal(2, 1), 3, empty(), false))
	isNothing(t, "2, another batch", a, func() api.Step { return propose(a, 1, bal(2, 1), 3, five()) })
	isNothing(t, "2, a lower ballot", a, func() api.Step { return propose(a, 0, bal(1, 0), 1, empty()) })
}

func exampleThree(t *testing.T, a *acceptor.Acceptor) {
	isStep(t, "3", propose(a, 2, bal(2, 2), 6, five()), accepted(3, bal(2, 2), 6, five(), true))
	votes := []api.Vote{vote(3, bal(2, 1), empty()), vote(6, bal(2, 2), five())}
	isState(t, "3", a, api.AcceptorState{Max: bal(2, 2), Low: 3, Votes: votes, Marks: []uint64{0, 0, 0}})
	isNothing(t, "3, below low", a, func() api.Step { return propose(a, 2, bal(2, 2), 2, empty()) })
}

func exampleFive(t *testing.T, a *acceptor.Acceptor) {
	if !beat(a, 0, 8) || !beat(a, 2, 4) {
		t.Error("5: a new mark is not heard")
	}
	isStep(t, "5", a.Truncate(), api.Step{Recs: []api.Record{rLow(4)}})
	isState(t, "5", a, api.AcceptorState{Max: bal(3, 0), Low: 4, Votes: []api.Vote{vote(6, bal(2, 2), five())}, Marks: []uint64{8, 0, 4}})
	isNothing(t, "5, again", a, a.Truncate)
	if beat(a, 2, 4) {
		t.Error("5: the same mark once more")
	}
}

func TestExampleRecover(t *testing.T) {
	want := api.AcceptorState{Max: bal(1, 0), Low: 6, Votes: []api.Vote{vote(9, bal(1, 0), empty())}, Marks: []uint64{0, 0, 0}}
	isState(t, "7", recovered(t, small(), rLow(4), rVote(bal(1, 0), 9, empty())), want)
	isState(t, "7, the second", recovered(t, small(), rVote(bal(1, 0), 9, empty()), rLow(5), rVote(bal(1, 0), 4, empty())), want)
	a, err := acceptor.Recover(small(), 0, []api.Record{rVote(bal(0, 0), 1, empty())})
	isFault(t, "7, the third", err, api.ErrAcceptorRecord, 2)
	if a != nil {
		t.Error("7: an acceptor beside a refusal")
	}
}
