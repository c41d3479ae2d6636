package ballot_test

import (
	"math"
	"testing"

	"quorum/api"
	"quorum/ballot"
)

func TestP9_9Speak(t *testing.T) {
	l := ballot.NewTally[uint64](group(t, small()))
	holds(t, l, 7, 0, false)
	says(t, l, 7, 1, 1, api.OK)
	holds(t, l, 7, 2, false)
	says(t, l, 7, 1, 1, api.OK) // once more: it is counted once
	holds(t, l, 7, 2, false)
	says(t, l, 7, 0, 2, api.OK)
	holds(t, l, 7, 3, true)
	says(t, l, 7, 2, 3, api.OK)
	holds(t, l, 7, 7, true)
	says(t, l, 7, 0, 3, api.OK)
	holds(t, l, 8, 0, false)
	says(t, l, 8, 2, 1, api.OK)
	holds(t, l, 8, 4, false)
	holds(t, l, 7, 7, true)
	if l.Len() != 2 {
		t.Errorf("%d keys, want 2", l.Len())
	}
}

func TestP9_9Reached(t *testing.T) {
	for f := 1; f <= api.MaxF; f++ {
		l := ballot.NewTally[string](sized(t, f, 5))
		for node := 2 * f; node >= 0; node-- {
			many := 2*f - node + 1
			says(t, l, "k", node, many, api.OK)
			if l.Reached("k") != (many >= f+1) {
				t.Errorf("F %d: %d have spoken, reached is %v", f, many, l.Reached("k"))
			}
		}
		says(t, l, "k", 2*f+1, 0, api.ErrBallotNode)
	}
}

// A replica that there is none of changes nothing: it makes no key, and it comes ahead of a tally that is full.
func TestP9_9Nobody(t *testing.T) {
	l := ballot.NewTally[int](group(t, small()))
	says(t, l, 5, 0, 1, api.OK)
	for _, node := range []int{-1, 3, 31, 32, math.MinInt, math.MaxInt} {
		says(t, l, 5, node, 0, api.ErrBallotNode)
		says(t, l, 6, node, 0, api.ErrBallotNode)
	}
	holds(t, l, 5, 1, false)
	if l.Len() != 1 {
		t.Errorf("%d keys, want 1", l.Len())
	}
}

func TestP9_9Full(t *testing.T) {
	l := ballot.NewTally[int](group(t, small()))
	for k := range api.MaxTally {
		if l.Len() != k {
			t.Fatalf("%d keys, want %d", l.Len(), k)
		}
		says(t, l, k, k%3, 1, api.OK)
	}
	for range 2 {
		says(t, l, 64, 0, 0, api.ErrBallotFull)
		says(t, l, -1, 2, 0, api.ErrBallotFull)
		says(t, l, 64, 3, 0, api.ErrBallotNode)
		holds(t, l, 64, 0, false)
	}
	if l.Len() != 64 {
		t.Errorf("%d keys, want 64", l.Len())
	}
	// Keys that are there already are heard, as often as they come.
	says(t, l, 0, 1, 2, api.OK)
	says(t, l, 63, 0, 1, api.OK)
	says(t, l, 63, 2, 2, api.OK)
	holds(t, l, 0, 3, true)
	// One that is dropped makes room for one.
	l.Drop(5)
	says(t, l, 64, 2, 1, api.OK)
	says(t, l, 5, 2, 0, api.ErrBallotFull)
	if l.Len() != 64 {
		t.Errorf("%d keys, want 64", l.Len())
	}
}

func TestP9_9Drop(t *testing.T) {
	l := ballot.NewTally[uint64](group(t, small()))
	l.Drop(1) // there is none: nothing happens
	says(t, l, 1, 0, 1, api.OK)
	says(t, l, 1, 1, 2, api.OK)
	says(t, l, 2, 0, 1, api.OK)
	l.Drop(3)
	l.Drop(1)
	l.Drop(1)
	holds(t, l, 1, 0, false)
	holds(t, l, 2, 1, false)
	if l.Len() != 1 {
		t.Errorf("%d keys, want 1", l.Len())
	}
	says(t, l, 1, 2, 1, api.OK) // it begins anew
	holds(t, l, 1, 4, false)
}

// To ask for a key does not make it one.
func TestP9_9Asking(t *testing.T) {
	l := ballot.NewTally[uint64](group(t, small()))
	for k := range uint64(100) {
		holds(t, l, k, 0, false)
	}
	if l.Len() != 0 {
		t.Errorf("%d keys, want 0", l.Len())
	}
}

func TestP9_9Apart(t *testing.T) {
	g := group(t, small())
	a, b := ballot.NewTally[uint64](g), ballot.NewTally[uint64](g)
	says(t, a, 1, 0, 1, api.OK)
	says(t, a, 1, 1, 2, api.OK)
	says(t, b, 1, 2, 1, api.OK)
	holds(t, a, 1, 3, true)
	holds(t, b, 1, 4, false)
	b.Drop(1)
	holds(t, a, 1, 3, true)
	for k := range uint64(64) {
		says(t, b, k, 0, 1, api.OK)
	}
	says(t, a, 99, 0, 1, api.OK)
	if a.Len() != 2 || b.Len() != 64 {
		t.Errorf("%d and %d keys", a.Len(), b.Len())
	}
}

// A tally counts for the group that it was made of, whatever the caller lays over that later.
func TestP9_9GroupStays(t *testing.T) {
	g, five := group(t, small()), sized(t, 2, 5)
	l := ballot.NewTally[uint64](g)
	*g = *five
	says(t, l, 1, 3, 0, api.ErrBallotNode)
	says(t, l, 1, 0, 1, api.OK)
	says(t, l, 1, 2, 2, api.OK)
	holds(t, l, 1, 5, true)
	*g = ballot.Group{}
	holds(t, l, 1, 5, true)
}

// Keys of several kinds: numbers, texts, ballots, pairs, arrays.
func TestP9_9Kinds(t *testing.T) {
	g := group(t, small())
	kind(t, g, uint64(1), uint64(2))
	kind(t, g, "a", "b")
	kind(t, g, false, true)
	kind(t, g, bal(1, 0), bal(1, 1))
	kind(t, g, [2]int{1, 2}, [2]int{2, 1})
	type place struct {
		bal  api.Ballot
		slot uint64
	}
	kind(t, g, place{bal(1, 0), 3}, place{bal(1, 0), 4})
	kind(t, g, place{bal(1, 0), 3}, place{bal(2, 0), 3})
	kind(t, g, struct{}{}, struct{}{})
}

func kind[K comparable](t *testing.T, g *ballot.Group, k, other K) {
	t.Helper()
	l := ballot.NewTally[K](g)
	says(t, l, k, 0, 1, api.OK)
	says(t, l, k, 2, 2, api.OK)
	holds(t, l, k, 5, true)
	if other == k {
		return
	}
	holds(t, l, other, 0, false)
	says(t, l, other, 1, 1, api.OK)
	l.Drop(k)
	holds(t, l, k, 0, false)
	holds(t, l, other, 2, false)
}

// Tallies that NewTally did not make: nil, and a plain one.
func TestNoTally(t *testing.T) {
	for _, l := range []*ballot.Tally[uint64]{nil, {}} {
		for _, node := range []int{0, 2, 3, -1} {
			says(t, l, 1, node, 0, api.ErrZero)
		}
		holds(t, l, 1, 0, false)
		l.Drop(1)
		if l.Len() != 0 {
			t.Errorf("%d keys", l.Len())
		}
	}
	if l := ballot.NewTally[uint64](group(t, small())); l == nil || l.Len() != 0 {
		t.Errorf("a new tally: %v", l)
	}
}
