package ballot_test

import (
	"math"
	"slices"
	"testing"

	"quorum/api"
	"quorum/ballot"
)

func TestP9_7WithAndHas(t *testing.T) {
	sets := []api.NodeSet{0, 1, 4, 7, 1 << 31, 0xaaaaaaaa, math.MaxUint32}
	for _, s := range sets {
		for node := range 32 {
			with := ballot.With(s, node)
			if with != s|1<<node || !ballot.Has(with, node) {
				t.Errorf("With(%b, %d): %b", s, node, with)
			}
			if ballot.Has(s, node) != (s>>node&1 == 1) {
				t.Errorf("Has(%b, %d) is %v", s, node, ballot.Has(s, node))
			}
		}
		for _, node := range []int{-1, -31, -32, 32, 33, 63, 64, 65, 1 << 32, math.MinInt, math.MaxInt} {
			if ballot.With(s, node) != s || ballot.Has(s, node) {
				t.Errorf("%d: With(%b) is %b, Has is %v", node, s, ballot.With(s, node), ballot.Has(s, node))
			}
		}
	}
}

func TestP9_7CountAndCross(t *testing.T) {
	for s, want := range map[api.NodeSet]int{0: 0, 1: 1, 1 << 31: 1, 6: 2, 0xaaaaaaaa: 16, math.MaxUint32: 32} {
		if got := ballot.Count(s); got != want {
			t.Errorf("Count(%b): %d, want %d", s, got, want)
		}
	}
	for _, c := range []struct {
		a, b api.NodeSet
		want int
	}{
		{0, 0, -1}, {0, math.MaxUint32, -1}, {1, 2, -1}, {0xaaaaaaaa, 0x55555555, -1},
		{1, 1, 0}, {math.MaxUint32, math.MaxUint32, 0}, {6, 12, 2}, {12, 6, 2}, {12, 12, 2},
		{1 << 31, math.MaxUint32, 31}, {1<<31 | 1, 1<<31 | 2, 31}, {1<<31 | 1<<30, 1<<31 | 1<<30, 30},
	} {
		if got := ballot.Cross(c.a, c.b); got != c.want {
			t.Errorf("Cross(%b, %b): %d, want %d", c.a, c.b, got, c.want)
		}
	}
}

func TestP9_7Members(t *testing.T) {
	for _, c := range []struct {
		s    api.NodeSet
		want []int
	}{
		{0, nil}, {1, []int{0}}, {1 << 31, []int{31}}, {1<<31 | 9, []int{0, 3, 31}}, {7, []int{0, 1, 2}},
	} {
		m := ballot.Members(c.s)
		for range 3 {
			if got := slices.Collect(m); !slices.Equal(got, c.want) {
				t.Errorf("Members(%b): %v, want %v", c.s, got, c.want)
			}
		}
	}
	if n := len(slices.Collect(ballot.Members(math.MaxUint32))); n != 32 {
		t.Errorf("a full set has %d", n)
	}
}

// Ranging that is left early, or within another one, disturbs no other.
func TestP9_7MembersLeft(t *testing.T) {
	m := ballot.Members(1<<20 | 1<<5 | 2)
	var seen []int
	for n := range m {
		if seen = append(seen, n); n == 5 {
			break
		}
	}
	if !slices.Equal(seen, []int{1, 5}) {
		t.Errorf("left at 5: %v", seen)
	}
	seen = nil
	for a := range m {
		for b := range m {
			seen = append(seen, a, b)
		}
	}
	if !slices.Equal(seen, []int{1, 1, 1, 5, 1, 20, 5, 1, 5, 5, 5, 20, 20, 1, 20, 5, 20, 20}) {
		t.Errorf("one within the other: %v", seen)
	}
	m(nil) // nobody takes them: nothing happens
}

func TestP9_7Majority(t *testing.T) {
	for f := 1; f <= api.MaxF; f++ {
		g := sized(t, f, 5)
		if g.All() != 1<<(2*f+1)-1 {
			t.Errorf("F %d: All is %b", f, g.All())
		}
		strangers := []api.NodeSet{0, 1 << 31, ^g.All()}
		for s := range g.All() + 1 {
			n := 0
			for node := range 2*f + 1 {
				n += int(s >> node & 1)
			}
			for _, more := range strangers {
				if g.Majority(s|more) != (n >= f+1) {
					t.Errorf("F %d: Majority(%b) is %v", f, s|more, g.Majority(s|more))
				}
			}
		}
	}
}

// Any two majorities have a replica in common.
func TestP9_7Common(t *testing.T) {
	for f := 1; f <= api.MaxF; f++ {
		g := sized(t, f, 5)
		pairs := 0
		for a := range g.All() + 1 {
			for b := range g.All() + 1 {
				if !g.Majority(a) || !g.Majority(b) {
					continue
				}
				pairs++
				if n := ballot.Cross(a, b); !g.Node(n) || !ballot.Has(a, n) || !ballot.Has(b, n) {
					t.Errorf("F %d: %b and %b have %d in common", f, a, b, n)
				}
			}
		}
		if want := 1 << (4 * f); pairs != want { // half of all sets are majorities
			t.Errorf("F %d: %d pairs, want %d", f, pairs, want)
		}
	}
}
