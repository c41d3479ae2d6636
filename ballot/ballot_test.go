package ballot_test

import (
	"math"
	"testing"

	"quorum/api"
	"quorum/ballot"
)

func TestP9_3Compare(t *testing.T) {
	// Rising, whatever is in them.
	rising := []api.Ballot{
		bal(0, math.MinInt), bal(0, -1), bal(0, 0), bal(0, 1), bal(0, math.MaxInt),
		bal(1, math.MinInt), bal(1, -1), bal(1, 0), bal(1, 2), bal(1, 1<<32),
		bal(2, -5), bal(2, 0), bal(1<<32, 0), bal(1<<40, 6), bal(1<<63, 0),
		bal(math.MaxUint64, math.MinInt), bal(math.MaxUint64, 0), bal(math.MaxUint64, math.MaxInt),
	}
	for i, a := range rising {
		for j, b := range rising {
			want := 0
			if i < j {
				want = -1
			} else if i > j {
				want = 1
			}
			if got := ballot.Compare(a, b); got != want {
				t.Errorf("Compare(%v, %v): %d, want %d", a, b, got, want)
			}
			if ballot.Less(a, b) != (i < j) {
				t.Errorf("Less(%v, %v) is %v", a, b, ballot.Less(a, b))
			}
		}
	}
}

func TestP9_3Valid(t *testing.T) {
	for f := 1; f <= api.MaxF; f++ {
		for _, most := range []uint64{1, 5, 1 << 40} {
			g := sized(t, f, most)
			for _, num := range []uint64{0, 1, 2, most - 1, most, most + 1, 1 << 63, math.MaxUint64} {
				for _, node := range []int{math.MinInt, -1, 0, 1, 2*f - 1, 2 * f, 2*f + 1, 31, 1 << 32, math.MaxInt} {
					want := num == 0 && node == 0 || 1 <= num && num <= most && 0 <= node && node <= 2*f
					if got := g.Valid(bal(num, node)); got != want {
						t.Errorf("F %d, MaxNum %d: Valid(%v) is %v", f, most, bal(num, node), got)
					}
				}
			}
		}
	}
}

// wrongBallots are none of three replicas with numbers up to 5.
func wrongBallots() []api.Ballot {
	return []api.Ballot{
		bal(0, 1), bal(0, 2), bal(0, 3), bal(0, -1), bal(1, -1), bal(1, 3), bal(5, 3), bal(6, 0), bal(6, 2), bal(6, 3),
		bal(1, math.MinInt), bal(1, math.MaxInt), bal(1<<40, 0), bal(math.MaxUint64, 0), bal(math.MaxUint64, 2), bal(math.MaxUint64, -1),
	}
}

func TestP9_4Wrong(t *testing.T) {
	g := group(t, small())
	for _, b := range wrongBallots() {
		next, err := g.Next(b)
		isBallot(t, "Next", next, err, bal(0, 0), api.ErrBallotForm, 0)
		// Also with a node that is none, and where there were none above.
		for _, node := range []int{0, 1, 2, 3, -1, math.MaxInt} {
			own, err := g.Own(b, node)
			isBallot(t, "Own", own, err, bal(0, 0), api.ErrBallotForm, 0)
		}
	}
	for _, node := range []int{-1, 3, 31, 32, math.MinInt, math.MaxInt} {
		for _, b := range []api.Ballot{bal(0, 0), bal(1, 0), bal(5, 0), bal(5, 2)} {
			own, err := g.Own(b, node)
			isBallot(t, "Own of nobody", own, err, bal(0, 0), api.ErrBallotNode, 1)
		}
	}
}

func TestP9_4End(t *testing.T) {
	for _, c := range []api.Config{small(), narrow(), wide()} {
		g := group(t, c)
		last := bal(c.MaxNum, 2*c.F)
		next, err := g.Next(last)
		isBallot(t, "Next of the last", next, err, bal(0, 0), api.ErrBallotEnd, 0)
		next, err = g.Next(bal(last.Num, last.Node-1))
		isBallot(t, "Next of the last but one", next, err, last, api.OK, 0)
		for from := range g.Nodes() {
			for node := range g.Nodes() {
				b := bal(c.MaxNum, from)
				own, err := g.Own(b, node)
				if node > from {
					isBallot(t, "Own", own, err, bal(c.MaxNum, node), api.OK, 0)
				} else {
					isBallot(t, "Own at the end", own, err, bal(0, 0), api.ErrBallotEnd, 0)
				}
			}
		}
	}
}

// The first ballots: {0 0} is nobody's own, not even that of replica 0.
func TestP9_4First(t *testing.T) {
	for _, c := range []api.Config{small(), narrow(), wide()} {
		g := group(t, c)
		next, err := g.Next(bal(0, 0))
		isBallot(t, "Next of none", next, err, bal(1, 0), api.OK, 0)
		for node := range g.Nodes() {
			own, err := g.Own(bal(0, 0), node)
			isBallot(t, "Own of none", own, err, bal(1, node), api.OK, 0)
		}
	}
}

func TestP9_5Wrong(t *testing.T) {
	g := group(t, small())
	for _, b := range wrongBallots() {
		n, err := g.Rank(b)
		isFault(t, "Rank", err, api.ErrBallotForm, 0)
		if n != 0 {
			t.Errorf("Rank(%v): %d beside a refusal", b, n)
		}
	}
	for f := 1; f <= api.MaxF; f++ {
		for _, most := range []uint64{1, 5, 1 << 40} {
			g := sized(t, f, most)
			top := most * uint64(2*f+1)
			b, err := g.Ranked(top)
			isBallot(t, "the last rank", b, err, bal(most, 2*f), api.OK, 0)
			for _, n := range []uint64{top + 1, top + 2, 1 << 63, math.MaxUint64} {
				b, err := g.Ranked(n)
				isBallot(t, "a rank too high", b, err, bal(0, 0), api.ErrBallotRank, 0)
			}
		}
	}
}

func TestP9_5Great(t *testing.T) {
	g := group(t, wide())
	for b, want := range map[api.Ballot]uint64{
		bal(1<<40, 6):   7 << 40,
		bal(1<<40, 0):   7<<40 - 6,
		bal(1<<40-1, 6): 7<<40 - 7,
		bal(1<<32, 3):   7<<32 - 3,
	} {
		if n, err := g.Rank(b); n != want || err != nil {
			t.Errorf("Rank(%v): %d %v, want %d", b, n, err, want)
		}
		back, err := g.Ranked(want)
		isBallot(t, "Ranked", back, err, b, api.OK, 0)
	}
}
