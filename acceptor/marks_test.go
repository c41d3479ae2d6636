package acceptor_test

import (
	"math"
	"testing"

	"quorum/api"
)

func TestP10_5Beat(t *testing.T) {
	for f := 1; f <= api.MaxF; f++ {
		c := small()
		c.F = f
		a, marks := madeOf(t, c), make([]uint64, 2*f+1)
		hear := func(src api.Addr, slot uint64, want bool) {
			t.Helper()
			if got := a.Beat(src, api.Msg{Kind: api.KBeat, Slot: slot}); got != want {
				t.Errorf("F %d: Beat(%d, %d) is %v", f, src, slot, got)
			}
			if want {
				marks[src] = slot
			}
			isState(t, "marks", a, api.AcceptorState{Marks: marks})
		}
		for src := range api.Addr(2*f + 1) {
			for _, slot := range []uint64{0, 1001, 1 << 40, math.MaxUint64} {
				hear(src, slot, false)
			}
			hear(src, 1, true)
			hear(src, 1, false)
			hear(src, 0, false)
			hear(src, 7+uint64(src), true)
			hear(src, 6+uint64(src), false)
		}
		for _, src := range []api.Addr{api.Addr(2*f + 1), api.Addr(2*f + 2), 255, 256, 1 << 32, 1 << 63, math.MaxUint64} {
			for _, slot := range []uint64{0, 1, 100, 1000} {
				hear(src, slot, false)
			}
		}
		hear(0, 1000, true)
		hear(0, 1000, false)
		hear(0, 1001, false)
	}
}

func TestP10_5Kind(t *testing.T) {
	a := made(t)
	for kind := api.Kind(-1); kind < 13; kind++ {
		if kind != api.KBeat && a.Beat(1, api.Msg{Kind: kind, Slot: 5}) {
			t.Errorf("kind %d is heard", kind)
		}
	}
	isState(t, "other kinds", a, api.AcceptorState{Marks: []uint64{0, 0, 0}})
	// The view, and all that a heartbeat does not use, is not looked at.
	m := stuffed(api.Msg{Kind: api.KBeat, Bal: bal(101, 9), Slot: 5, Batch: badBatches()["number 0"]})
	if !a.Beat(1, m) {
		t.Error("a stuffed heartbeat is not heard")
	}
	isState(t, "a stuffed heartbeat", a, api.AcceptorState{Marks: []uint64{0, 5, 0}})
}

func TestP10_6Quorum(t *testing.T) {
	for f := 1; f <= api.MaxF; f++ {
		c := small()
		c.F = f
		a := madeOf(t, c)
		isNothing(t, "no marks", a, a.Truncate)
		// The marks come highest first: 70, 60, 50 ..; the last of a quorum of them is what a quorum has reached.
		for n := range 2*f + 1 {
			if !beat(a, 2*f-n, uint64(70-10*n)) {
				t.Fatal("a mark is not heard")
			}
			if n < f {
				isNothing(t, "no quorum yet", a, a.Truncate)
				continue
			}
			if n == f {
				reached := uint64(70 - 10*f)
				isStep(t, "a quorum", a.Truncate(), api.Step{Recs: []api.Record{rLow(reached)}})
				if a.Low() != reached {
					t.Errorf("Low is %d, want %d", a.Low(), reached)
				}
			}
			isNothing(t, "nothing new", a, a.Truncate)
		}
	}
}

func TestP10_6Votes(t *testing.T) {
	a := voted(t)
	beat(a, 0, 4)
	beat(a, 1, 1000)
	isStep(t, "up to 4", a.Truncate(), api.Step{Recs: []api.Record{rLow(4)}})
	isState(t, "up to 4", a, api.AcceptorState{Max: bal(5, 1), Low: 4, Votes: votedVotes()[1:], Marks: []uint64{4, 1000, 0}})
	beat(a, 2, 7)
	isStep(t, "up to 7", a.Truncate(), api.Step{Recs: []api.Record{rLow(7)}})
	isState(t, "up to 7", a, api.AcceptorState{Max: bal(5, 1), Low: 7, Marks: []uint64{4, 1000, 7}})
	beat(a, 0, 1000)
	isStep(t, "to the end", a.Truncate(), api.Step{Recs: []api.Record{rLow(1000)}})
	isState(t, "to the end", a, api.AcceptorState{Max: bal(5, 1), Low: 1000, Marks: []uint64{1000, 1000, 7}})
}

// Marks at Low or below it cut nothing, one above does.
func TestP10_6AtLow(t *testing.T) {
	for _, mark := range []uint64{1, 2, 3} {
		a := voted(t)
		beat(a, 0, mark)
		beat(a, 2, mark)
		isNothing(t, "not above low", a, a.Truncate)
	}
	a := voted(t)
	beat(a, 0, 3)
	beat(a, 1, 3)
	beat(a, 2, 5)
	isNothing(t, "one replica alone", a, a.Truncate)
	beat(a, 0, 4)
	isStep(t, "a quorum above low", a.Truncate(), api.Step{Recs: []api.Record{rLow(4)}})
}

func TestP10_7Records(t *testing.T) {
	for what, recs := range map[string][]api.Record{
		"none":            nil,
		"a promise alone": {rPromise(bal(9, 2))},
		"low alone":       {rLow(8)},
		"a vote alone":    {rPromise(bal(1, 0)), rVote(bal(1, 0), 0, two())},
		"the last low":    {rPromise(bal(1, 0)), rLow(1000)},
		"all":             {rPromise(bal(9, 2)), rLow(8), rVote(bal(9, 1), 8, two()), rVote(bal(1, 0), 9, five()), rVote(bal(9, 2), 11, full())},
	} {
		a := recovered(t, small(), recs...)
		if got := a.Records(); !same(got, recs) {
			t.Errorf("%s: %+v, want %+v", what, got, recs)
		}
		isState(t, what, recovered(t, small(), a.Records()...), a.State())
	}
	// The marks are not in the records.
	a := voted(t)
	beat(a, 0, 2)
	beat(a, 1, 900)
	want := a.State()
	want.Marks = []uint64{0, 0, 0}
	isState(t, "marks", recovered(t, small(), a.Records()...), want)
}

func TestP10_8State(t *testing.T) {
	a := voted(t)
	beat(a, 2, 9)
	want := api.AcceptorState{Max: bal(5, 1), Low: 3, Votes: votedVotes(), Marks: []uint64{0, 0, 9}}
	for range 5 {
		isState(t, "told again", a, want)
	}
}
