package proposer_test

import (
	"errors"
	"math"
	"testing"

	"quorum/api"
	"quorum/ballot"
	"quorum/proposer"
)

// both makes a proposer by New, if there are no records, and by Recover.
func both(c api.Config, self int, recs []api.Record, look func(*proposer.Proposer, error)) {
	if recs == nil {
		look(proposer.New(c, self))
	}
	look(proposer.Recover(c, self, recs))
}

func TestP11_1New(t *testing.T) {
	for f := 1; f <= api.MaxF; f++ {
		for self := range 2*f + 1 {
			both(withF(f), self, nil, func(p *proposer.Proposer, err error) {
				if p == nil || err != nil {
					t.Fatalf("F %d, replica %d: %v", f, self, err)
				}
				isState(t, "a new one", p, api.ProposerState{})
			})
		}
	}
	isState(t, "the least of all", madeOf(t, narrow(), 2), api.ProposerState{})
	isState(t, "the greatest of all", madeOf(t, wide(), 6), api.ProposerState{})
}

// A wrong configuration comes ahead of all, with ballot's own fault behind it.
func TestP11_1Config(t *testing.T) {
	first, fourth := small(), small()
	first.F, fourth.Every = 0, 5
	for at, c := range map[int]api.Config{0: first, 4: fourth} {
		_, low := ballot.New(c)
		for _, self := range []int{0, 2, 3, -1} {
			for _, recs := range [][]api.Record{nil, {rStart(bal(1, 0))}, {rStart(bal(0, 0))}} {
				both(c, self, recs, func(p *proposer.Proposer, err error) {
					f, ok := err.(*api.Fault)
					if p != nil || !ok || f.Layer != "proposer" || f.At != 0 || !same(f.Err, low) || !errors.Is(err, api.ErrBallotConfig) {
						t.Errorf("%v with %v, want proposer at 0 with %v behind it", p, err, low)
						return
					}
					if g, ok := f.Err.(*api.Fault); !ok || g.Layer != "ballot" || g.At != at {
						t.Errorf("behind it is %v, want ballot's at %d", f.Err, at)
					}
				})
			}
		}
	}
}

// A replica that is none comes ahead of every record.
func TestP11_1Node(t *testing.T) {
	for f := 1; f <= api.MaxF; f++ {
		for _, self := range []int{-1, 2*f + 1, 2*f + 2, 31, 32, 256, math.MinInt, math.MaxInt, 1 << 32} {
			for _, recs := range [][]api.Record{nil, {rStart(bal(1, 0))}, {rStart(bal(0, 0))}, {rStart(bal(1, self))}} {
				both(withF(f), self, recs, func(p *proposer.Proposer, err error) {
					isFault(t, "nobody", p, err, api.ErrBallotNode, 1)
				})
			}
		}
	}
}

// Each wrong record alone, behind good ones, and ahead of other wrong ones.
func TestP11_2Record(t *testing.T) {
	good := []api.Record{rStart(bal(2, 1)), {Kind: 77, Bal: bal(0, 9)}, rStart(bal(50, 1)), {Kind: api.RPromise, Bal: bal(1, 0)}}
	wrong := badBallots()
	wrong["the replica below"], wrong["the replica above"] = bal(3, 0), bal(3, 2)
	wrong["a number too high, of its own"], wrong["number 0 of its own"] = bal(51, 1), bal(0, 1)
	for what, b := range wrong {
		for n := range len(good) + 1 {
			recs := append(append([]api.Record{}, good[:n]...), rStart(b))
			p, err := proposer.Recover(small(), 1, recs)
			isFault(t, what, p, err, api.ErrProposerRecord, n)
			p, err = proposer.Recover(small(), 1, append(append(recs, good...), rStart(bal(1, 2)), rStart(b)))
			isFault(t, what+", then others", p, err, api.ErrProposerRecord, n)
		}
	}
	p, err := proposer.Recover(small(), 0, []api.Record{rStart(bal(0, 0))})
	isFault(t, "none, by replica 0", p, err, api.ErrProposerRecord, 0)
}

// The greatest ballot counts, wherever it stands; records of other kinds and unused fields are not looked at.
func TestP11_2Taken(t *testing.T) {
	for _, c := range []struct {
		recs []api.Record
		want api.Ballot
	}{
		{nil, bal(0, 0)},
		{[]api.Record{}, bal(0, 0)},
		{[]api.Record{rStart(bal(1, 1))}, bal(1, 1)},
		{[]api.Record{rStart(bal(1, 1)), rStart(bal(50, 1)), rStart(bal(7, 1))}, bal(50, 1)},
		{[]api.Record{rStart(bal(9, 1)), rStart(bal(9, 1)), rStart(bal(8, 1))}, bal(9, 1)},
		{[]api.Record{{Kind: api.RStart, Bal: bal(4, 1), Slot: 1 << 50, Batch: badBatches()["number 0"], Data: []byte{1}}}, bal(4, 1)},
	} {
		p, err := proposer.Recover(small(), 1, c.recs)
		if p == nil || err != nil {
			t.Fatalf("%+v: %v", c.recs, err)
		}
		isState(t, "out of records", p, api.ProposerState{Bal: c.want})
	}
	for _, kind := range []api.RecKind{api.RPromise, api.RVote, api.RLow, api.RCheck, 0, 6, 77, -1, math.MaxInt} {
		for _, b := range []api.Ballot{bal(9, 1), bal(9, 0), bal(0, 0), bal(99, 9)} {
			p, err := proposer.Recover(small(), 1, []api.Record{{Kind: kind, Bal: b}, rStart(bal(2, 1)), {Kind: kind, Bal: b}})
			if p == nil || err != nil {
				t.Fatalf("kind %d: %v", kind, err)
			}
			isState(t, "others", p, api.ProposerState{Bal: bal(2, 1)})
		}
	}
	most := uint64(1 << 40)
	p, err := proposer.Recover(wide(), 6, []api.Record{rStart(bal(most, 6))})
	if p == nil || err != nil {
		t.Fatal(err)
	}
	isState(t, "the last ballot of all", p, api.ProposerState{Bal: bal(most, 6)})
}

// A recovered proposer begins only ballots above those of its records.
func TestP11_2Begins(t *testing.T) {
	p, err := proposer.Recover(small(), 1, []api.Record{rStart(bal(3, 1)), rStart(bal(2, 1))})
	if p == nil || err != nil {
		t.Fatal(err)
	}
	for _, b := range []api.Ballot{bal(1, 1), bal(2, 1), bal(3, 0), bal(3, 1)} {
		isNothing(t, "not above", p, func() api.Step { return p.Enter(b, many(3)) })
	}
	isStep(t, "above", p.Enter(bal(4, 1), nil), begun(3, bal(4, 1)))
}
