package ballot_test

import (
	"testing"

	"quorum/api"
	"quorum/ballot"
)

// The chapter's table of examples, row by row.

func TestExampleNext(t *testing.T) {
	g := group(t, small())
	for _, c := range []struct {
		b, want api.Ballot
		why     api.Errno
	}{
		{b: bal(0, 0), want: bal(1, 0)},
		{b: bal(1, 0), want: bal(1, 1)},
		{b: bal(1, 2), want: bal(2, 0)},
		{b: bal(5, 2), why: api.ErrBallotEnd},
		{b: bal(0, 1), why: api.ErrBallotForm},
	} {
		got, err := g.Next(c.b)
		isBallot(t, "Next", got, err, c.want, c.why, 0)
	}
}

func TestExampleOwn(t *testing.T) {
	g := group(t, small())
	for _, c := range []struct {
		b    api.Ballot
		node int
		want api.Ballot
		why  api.Errno
		at   int
	}{
		{b: bal(0, 0), node: 0, want: bal(1, 0)},
		{b: bal(1, 0), node: 0, want: bal(2, 0)},
		{b: bal(1, 1), node: 0, want: bal(2, 0)},
		{b: bal(1, 1), node: 2, want: bal(1, 2)},
		{b: bal(5, 1), node: 1, why: api.ErrBallotEnd},
		{b: bal(5, 1), node: 2, want: bal(5, 2)},
		{b: bal(5, 1), node: 3, why: api.ErrBallotNode, at: 1},
	} {
		got, err := g.Own(c.b, c.node)
		isBallot(t, "Own", got, err, c.want, c.why, c.at)
	}
}

func TestExampleRank(t *testing.T) {
	g := group(t, small())
	for _, c := range []struct {
		b    api.Ballot
		want uint64
	}{{bal(0, 0), 0}, {bal(1, 0), 1}, {bal(2, 1), 5}, {bal(5, 2), 15}} {
		if n, err := g.Rank(c.b); n != c.want || err != nil {
			t.Errorf("Rank(%v): %d %v, want %d", c.b, n, err, c.want)
		}
	}
	for n, want := range map[uint64]api.Ballot{5: bal(2, 1), 15: bal(5, 2)} {
		b, err := g.Ranked(n)
		isBallot(t, "Ranked", b, err, want, api.OK, 0)
	}
	b, err := g.Ranked(16)
	isBallot(t, "Ranked 16", b, err, api.Ballot{}, api.ErrBallotRank, 0)
}

func TestExampleHigh(t *testing.T) {
	g := group(t, small())
	for low, want := range map[uint64]uint64{0: 8, 12: 20, 13: 20, 19: 20, 20: 20, 30: 20} {
		if got := g.High(low); got != want {
			t.Errorf("High(%d): %d, want %d", low, got, want)
		}
	}
}

func TestExampleSets(t *testing.T) {
	g := group(t, small())
	for s, want := range map[api.NodeSet]bool{5: true, 9: false, 7: true} {
		if g.Majority(s) != want {
			t.Errorf("Majority(%d) is %v", s, !want)
		}
	}
	if got := ballot.Cross(6, 12); got != 2 {
		t.Errorf("Cross(6, 12): %d", got)
	}
}

func TestExampleMark(t *testing.T) {
	for k, want := range map[int]uint64{1: 9, 2: 4, 3: 4, 4: 1} {
		if got, err := ballot.Mark([]uint64{4, 9, 4, 1}, k); got != want || err != nil {
			t.Errorf("Mark %d: %d %v, want %d", k, got, err, want)
		}
	}
}
