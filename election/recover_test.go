package election_test

import (
	"math"
	"testing"

	"quorum/api"
	"quorum/ballot"
	"quorum/election"
)

func TestP13_1New(t *testing.T) {
	for _, c := range []api.Config{small(), narrow(), wide(), withF(2)} {
		for self := range 2*c.F + 1 {
			for _, now := range []uint64{0, 1, 77, 1<<40 - c.Epoch - 1, 1<<40 - c.Epoch, 1<<40 - c.Epoch + 1, 1<<40 - 1, 1 << 40} {
				want := api.ElectionState{View: bal(1, 0), Length: c.Epoch, EpochEnd: min(now+c.Epoch, 1<<40)}
				isState(t, "New", madeOf(t, c, self, now), self, want)
				e, err := election.Recover(c, self, now, nil)
				if err != nil {
					t.Fatal(err)
				}
				isState(t, "Recover without records", e, self, want)
				e, err = election.Recover(c, self, now, []api.Record{})
				if err != nil {
					t.Fatal(err)
				}
				isState(t, "Recover with no record", e, self, want)
			}
		}
	}
}

// wrongStart is one reason not to begin.
type wrongStart struct {
	what  string
	spoil func(c *api.Config, self *int, now *uint64, recs *[]api.Record)
	why   error
	at    int
}

func wrongStarts(t *testing.T) []wrongStart {
	noF := small()
	noF.F = 0
	_, below := ballot.New(noF)
	if below == nil {
		t.Fatal("F 0 is refused by nobody")
	}
	return []wrongStart{
		{"F 0", func(c *api.Config, self *int, now *uint64, recs *[]api.Record) { c.F = 0 }, below, 0},
		{"replica 3", func(c *api.Config, self *int, now *uint64, recs *[]api.Record) { *self = 3 }, api.ErrElectionNode, 1},
		{"a late clock", func(c *api.Config, self *int, now *uint64, recs *[]api.Record) { *now = 1<<40 + 1 }, api.ErrElectionClock, 2},
		{"a record", func(c *api.Config, self *int, now *uint64, recs *[]api.Record) {
			*recs = []api.Record{{Kind: api.RStart, Bal: bal(2, 2)}, {Kind: api.RVote, Bal: bal(3, 0)}, {Kind: api.RPromise, Bal: bal(0, 1)}}
		}, api.ErrElectionRecord, 4},
	}
}

// Each reason alone, and with every set of later ones.
func TestP13_2Order(t *testing.T) {
	list := wrongStarts(t)
	for set := 1; set < 1<<len(list); set++ {
		c, self, now, recs := small(), 1, uint64(7), []api.Record{{Kind: api.RPromise, Bal: bal(2, 0)}}
		first := -1
		for i, w := range list {
			if set>>i&1 == 1 {
				w.spoil(&c, &self, &now, &recs)
				if first < 0 {
					first = i
				}
			}
		}
		e, err := election.Recover(c, self, now, recs)
		isFault(t, list[first].what, e, err, list[first].why, list[first].at)
		if set&8 == 0 {
			e, err = election.New(c, self, now)
			isFault(t, list[first].what+" to New", e, err, list[first].why, list[first].at)
		}
	}
}

// Ballot's fault is behind at 0 with its own place, field by field.
func TestP13_2Config(t *testing.T) {
	for at, spoil := range []func(*api.Config){
		func(c *api.Config) { c.F = 4 },
		func(c *api.Config) { c.MaxBatch = 0 },
		func(c *api.Config) { c.Delay = 1001 },
		func(c *api.Config) { c.Window = 9 },
		func(c *api.Config) { c.Every = 5 },
		func(c *api.Config) { c.Beat = 0 },
		func(c *api.Config) { c.Epoch = 0 },
		func(c *api.Config) { c.EpochMax = 9 },
		func(c *api.Config) { c.MaxNum = 0 },
		func(c *api.Config) { c.MaxSlot = 1<<40 + 1 },
	} {
		c := small()
		spoil(&c)
		e, err := election.New(c, 0, 0)
		isFault(t, "a configuration", e, err, &api.Fault{Layer: "ballot", At: at, Err: api.ErrBallotConfig}, 0)
	}
}

func TestP13_2NodeAndClock(t *testing.T) {
	for f := 1; f <= api.MaxF; f++ {
		for _, self := range []int{-1, 2*f + 1, 2*f + 2, 31, 256, 1 << 32, math.MinInt, math.MaxInt} {
			e, err := election.New(withF(f), self, 0)
			isFault(t, "nobody", e, err, api.ErrElectionNode, 1)
		}
		for _, now := range []uint64{1<<40 + 1, 1<<40 + 2, 1 << 63, math.MaxUint64} {
			e, err := election.New(withF(f), 2*f, now)
			isFault(t, "a late clock", e, err, api.ErrElectionClock, 2)
		}
	}
}

// A record of each kind with a ballot that is none, behind any number of good ones.
func TestP13_2Records(t *testing.T) {
	for what, b := range badBallots() {
		for _, kind := range []api.RecKind{api.RPromise, api.RVote, api.RStart} {
			for good := range 4 {
				var recs []api.Record
				for i := range good {
					recs = append(recs, api.Record{Kind: one(&dice{uint64(i)}, api.RPromise, api.RVote, api.RStart), Bal: bal(2, i%3)})
				}
				recs = append(recs, api.Record{Kind: kind, Bal: b}, api.Record{Kind: kind, Bal: bal(99, 99)})
				e, err := election.Recover(small(), 1, 7, recs)
				if b == bal(0, 0) { // that one is valid
					isFault(t, what, e, err, api.ErrElectionRecord, 3+good+1)
				} else {
					isFault(t, what, e, err, api.ErrElectionRecord, 3+good)
				}
			}
		}
	}
}

// Records of other kinds are passed over, whatever is in them; in those that count only the ballot does.
func TestP13_2PassedOver(t *testing.T) {
	var recs []api.Record
	for _, kind := range []api.RecKind{api.RLow, api.RCheck, 0, 6, 7, -1, 1 << 40} {
		for _, b := range append([]api.Ballot{bal(2, 2)}, bal(9, 9), bal(0, 1), bal(1<<63, -4)) {
			recs = append(recs, api.Record{Kind: kind, Bal: b, Slot: 1 << 50, Data: []byte{1}})
		}
	}
	e, err := election.Recover(small(), 1, 7, recs)
	if err != nil {
		t.Fatal(err)
	}
	isState(t, "other kinds", e, 1, api.ElectionState{View: bal(1, 0), Length: 10, EpochEnd: 17})
	recs = append(recs, api.Record{Kind: api.RVote, Bal: bal(1, 2), Slot: 1 << 50, Batch: api.Batch{Stamp: 1 << 50, Reqs: many(1, 40)}, Data: []byte{1}})
	if e, err = election.Recover(small(), 1, 7, recs); err != nil {
		t.Fatal(err)
	}
	isState(t, "a vote behind", e, 1, api.ElectionState{View: bal(1, 2), Length: 10, EpochEnd: 17})
}

// The view is the greatest, wherever it stands, and at least the first.
func TestP13_2Greatest(t *testing.T) {
	kinds := []api.RecKind{api.RPromise, api.RVote, api.RStart}
	for _, kind := range kinds {
		for _, b := range []api.Ballot{bal(0, 0), bal(1, 0), bal(1, 1), bal(1, 2), bal(2, 0), bal(2, 2)} {
			e, err := election.Recover(small(), 2, 1<<40-9, []api.Record{{Kind: kind, Bal: b}})
			if err != nil {
				t.Fatal(err)
			}
			want := b
			if below(b, bal(1, 0)) {
				want = bal(1, 0)
			}
			isState(t, "one record", e, 2, api.ElectionState{View: want, Length: 10, EpochEnd: 1 << 40})
		}
	}
	d := &dice{5}
	for range 500 {
		want := bal(1, 0)
		var recs []api.Record
		for range d.below(12) {
			b := one(d, bal(0, 0), bal(uint64(d.below(1000))+1, d.below(7)))
			recs = append(recs, api.Record{Kind: one(d, kinds...), Bal: b}, api.Record{Kind: api.RLow, Bal: bal(1000, 6)})
			if below(want, b) {
				want = b
			}
		}
		e, err := election.Recover(withF(3), 6, 40, recs)
		if err != nil {
			t.Fatal(err)
		}
		isState(t, "many records", e, 6, api.ElectionState{View: want, Length: 10, EpochEnd: 50})
	}
}
