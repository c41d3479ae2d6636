package election_test

import (
	"testing"

	"quorum/api"
	"quorum/election"
)

// The chapter's examples 1 to 5, one after the other.
func TestExamples(t *testing.T) {
	e := made(t)
	q, later := req(300, 1), req(300, 2)
	isState(t, "1: New", e, 0, api.ElectionState{View: bal(1, 0), Length: 10, EpochEnd: 15})
	if !e.Request(q) || e.Request(q) || !e.Request(later) || e.Request(req(300, 0)) || e.Request(req(255, 1)) {
		t.Error("1: Request")
	}
	isState(t, "1: both wait", e, 0, api.ElectionState{View: bal(1, 0), Length: 10, EpochEnd: 15, This: list(q, later)})

	if e.Timeout(14) || !e.Timeout(15) {
		t.Error("2: Timeout")
	}
	isState(t, "2: at 15", e, 0, api.ElectionState{View: bal(1, 0), Length: 10, EpochEnd: 25, Prev: list(q, later)})
	if !e.Timeout(25) {
		t.Error("2: Timeout(25)")
	}
	isState(t, "2: at 25", e, 0, api.ElectionState{View: bal(1, 0), Suspects: 1, Length: 10, EpochEnd: 35, Prev: list(q, later)})

	if e.Beat(2, beat(bal(1, 0), true), 26) {
		t.Error("3: Beat")
	}
	isState(t, "3: two suspect", e, 0, api.ElectionState{View: bal(1, 0), Suspects: 5, Length: 10, EpochEnd: 35, Prev: list(q, later)})
	if !e.Quorum(26) {
		t.Error("3: Quorum")
	}
	isState(t, "3: the next view", e, 0, api.ElectionState{View: bal(1, 1), Length: 20, EpochEnd: 46, Prev: list(q, later)})

	if !e.Beat(1, beat(bal(2, 0), true), 30) {
		t.Error("4: Beat")
	}
	four := api.ElectionState{View: bal(2, 0), Suspects: 2, Length: 30, EpochEnd: 60, Prev: list(q, later)}
	isState(t, "4: a higher view", e, 0, four)
	if e.Beat(1, beat(bal(1, 2), false), 31) {
		t.Error("4: a lower view")
	}
	isState(t, "4: a lower view", e, 0, four)

	e.Executed(ran(req(300, 2, 1, 2, 3)))
	isState(t, "5: Executed", e, 0, api.ElectionState{View: bal(2, 0), Suspects: 2, Length: 30, EpochEnd: 60})
	if !e.Timeout(60) {
		t.Error("5: Timeout")
	}
	isState(t, "5: the first length again", e, 0, api.ElectionState{View: bal(2, 0), Suspects: 2, Length: 10, EpochEnd: 70})
}

func TestExampleLastView(t *testing.T) {
	e := made(t)
	e.Beat(0, beat(bal(2, 2), true), 6)
	e.Beat(1, beat(bal(2, 2), true), 7)
	isState(t, "6: two suspect", e, 0, api.ElectionState{View: bal(2, 2), Suspects: 3, Length: 20, EpochEnd: 26})
	stays(t, "6: there is no next", e, func() bool { return e.Quorum(8) })
}

func TestExampleRecover(t *testing.T) {
	e, err := election.Recover(small(), 0, 5, []api.Record{{Kind: api.RVote, Bal: bal(2, 1)}, {Kind: api.RStart, Bal: bal(1, 2)}})
	if err != nil || e.View() != bal(2, 1) {
		t.Errorf("7: %v %v", e.View(), err)
	}
}
