package acceptor_test

import (
	"errors"
	"math"
	"testing"

	"quorum/acceptor"
	"quorum/api"
	"quorum/ballot"
)

func TestP10_1New(t *testing.T) {
	for _, c := range []api.Config{small(), narrow(), wide()} {
		for f := 1; f <= api.MaxF; f++ {
			c.F = f
			for self := range 2*f + 1 {
				a, err := acceptor.New(c, self)
				if err != nil {
					t.Fatalf("New(%+v, %d): %v", c, self, err)
				}
				isState(t, "a new one", a, api.AcceptorState{Marks: make([]uint64, 2*f+1)})
				b, err := acceptor.Recover(c, self, nil)
				if err != nil || !same(a.State(), b.State()) || a.Records() != nil {
					t.Errorf("F %d, replica %d: not as without records", f, self)
				}
			}
		}
	}
}

// badRecords are none that an acceptor of small() writes.
func badRecords() map[string]api.Record {
	bad := map[string]api.Record{
		"a vote for slot 1000":     rVote(bal(1, 0), 1000, empty()),
		"a vote for slot 1001":     rVote(bal(1, 0), 1001, empty()),
		"a vote for the last slot": rVote(bal(1, 0), math.MaxUint64, empty()),
		"a low of 1001":            rLow(1001),
		"a low of 2^40 + 1":        rLow(1<<40 + 1),
		"the greatest low":         rLow(math.MaxUint64),
	}
	for what, b := range badBallots() {
		bad["a promise of "+what] = rPromise(b)
		bad["a vote of "+what] = rVote(b, 1, empty())
	}
	for what, b := range badBatches() {
		bad["a vote for "+what] = rVote(bal(1, 0), 1, b)
	}
	return bad
}

// badBallots are led by nobody in small().
func badBallots() map[string]api.Ballot {
	return map[string]api.Ballot{
		"{0 0}": bal(0, 0), "{0 1}": bal(0, 1), "{101 0}": bal(101, 0), "{1 3}": bal(1, 3), "{1 -1}": bal(1, -1),
		"a great number": bal(math.MaxUint64, 1), "a great replica": bal(1, math.MaxInt), "{1 2^32}": bal(1, 1<<32),
	}
}

// refuses wants New (where there are no records) and Recover to refuse.
func refuses(t *testing.T, what string, c api.Config, self int, recs []api.Record, check func(err error)) {
	t.Helper()
	a, err := acceptor.Recover(c, self, recs)
	check(err)
	if a != nil {
		t.Errorf("%s: an acceptor beside a refusal", what)
	}
	if recs == nil {
		a, err = acceptor.New(c, self)
		check(err)
		if a != nil {
			t.Errorf("%s: a new acceptor beside a refusal", what)
		}
	}
}

// A configuration that may not be comes ahead of all else, with ballot's fault unchanged behind it.
func TestP10_2Config(t *testing.T) {
	one, every := small(), small()
	one.F, every.Every = 4, 5
	for at, c := range map[int]api.Config{0: one, 4: every} {
		_, low := ballot.New(c)
		for _, self := range []int{0, 2, 3, -1} {
			for _, recs := range [][]api.Record{nil, {rLow(1)}, {rLow(math.MaxUint64)}} {
				refuses(t, "a wrong configuration", c, self, recs, func(err error) {
					f, ok := err.(*api.Fault)
					if !ok || f.Layer != "acceptor" || f.At != 0 || !same(f.Err, low) || !errors.Is(err, api.ErrBallotConfig) {
						t.Errorf("refused with %v, want acceptor at 0 with %v behind it", err, low)
						return
					}
					if g, ok := f.Err.(*api.Fault); !ok || g.Layer != "ballot" || g.At != at {
						t.Errorf("behind it is %v, want ballot's at %d", f.Err, at)
					}
				})
			}
		}
	}
	refuses(t, "the empty configuration", api.Config{}, 9, nil, func(err error) {
		if !errors.Is(err, api.ErrBallotConfig) {
			t.Errorf("refused with %v", err)
		}
	})
}

// A replica that is none comes ahead of every record.
func TestP10_2Node(t *testing.T) {
	for f := 1; f <= api.MaxF; f++ {
		c := small()
		c.F = f
		for _, self := range []int{-1, 2*f + 1, 2*f + 2, 31, 32, 256, math.MinInt, math.MaxInt, 1 << 32} {
			for _, recs := range [][]api.Record{nil, {rLow(1)}, {rLow(1001)}, {rVote(bal(0, 0), 1, empty())}} {
				refuses(t, "nobody", c, self, recs, func(err error) { isFault(t, "nobody", err, api.ErrAcceptorNode, 1) })
			}
		}
	}
}

// Each wrong record alone, behind good ones, and ahead of every other wrong one.
func TestP10_2Record(t *testing.T) {
	good := []api.Record{rPromise(bal(2, 1)), {Kind: 77}, rVote(bal(2, 1), 3, two()), rLow(1)}
	for what, r := range badRecords() {
		for n := range len(good) + 1 {
			recs := append(append([]api.Record{}, good[:n]...), r)
			refuses(t, what, small(), n%3, recs, func(err error) { isFault(t, what, err, api.ErrAcceptorRecord, 2+n) })
			refuses(t, what, small(), n%3, append(recs, good...), func(err error) { isFault(t, what, err, api.ErrAcceptorRecord, 2+n) })
		}
		for _, later := range badRecords() {
			refuses(t, what, small(), 0, []api.Record{good[0], r, later}, func(err error) { isFault(t, what, err, api.ErrAcceptorRecord, 3) })
		}
	}
}

// What lies at a limit is taken.
func TestP10_2Limits(t *testing.T) {
	zero := []uint64{0, 0, 0}
	isState(t, "the last ballot", recovered(t, small(), rPromise(bal(100, 2))), api.AcceptorState{Max: bal(100, 2), Marks: zero})
	isState(t, "the first ballot", recovered(t, small(), rPromise(bal(1, 0))), api.AcceptorState{Max: bal(1, 0), Marks: zero})
	isState(t, "the last low", recovered(t, small(), rLow(1000)), api.AcceptorState{Low: 1000, Marks: zero})
	isState(t, "a vote for the last slot", recovered(t, small(), rVote(bal(100, 2), 999, full())),
		api.AcceptorState{Max: bal(100, 2), Low: 996, Votes: []api.Vote{vote(999, bal(100, 2), full())}, Marks: zero})
	isState(t, "a vote for slot 0", recovered(t, small(), rVote(bal(1, 0), 0, two())),
		api.AcceptorState{Max: bal(1, 0), Votes: []api.Vote{vote(0, bal(1, 0), two())}, Marks: zero})
	isState(t, "the one ballot and slot", recovered(t, narrow(), rVote(bal(1, 2), 0, empty())),
		api.AcceptorState{Max: bal(1, 2), Votes: []api.Vote{vote(0, bal(1, 2), empty())}, Marks: zero})
	most := uint64(1 << 40)
	isState(t, "the greatest of all", recovered(t, wide(), rLow(5), rVote(bal(most, 6), most-1, full())),
		api.AcceptorState{Max: bal(most, 6), Low: most - 8, Votes: []api.Vote{vote(most-1, bal(most, 6), full())}, Marks: make([]uint64, 7)})
	isState(t, "the greatest low", recovered(t, wide(), rLow(most)), api.AcceptorState{Low: most, Marks: make([]uint64, 7)})
}

// Records of other kinds are passed over, whatever is in them; so is what a record's kind does not use.
func TestP10_2Others(t *testing.T) {
	bad := badBatches()["number 0"]
	for _, kind := range []api.RecKind{api.RStart, api.RCheck, 0, 6, 77, -1, math.MaxInt} {
		a := recovered(t, small(), api.Record{Kind: kind, Bal: bal(101, 9), Slot: 1 << 50, Batch: bad, Data: []byte{1}}, rPromise(bal(2, 1)))
		isState(t, "others", a, api.AcceptorState{Max: bal(2, 1), Marks: []uint64{0, 0, 0}})
		a = recovered(t, small(), api.Record{Kind: kind, Bal: bal(9, 1), Slot: 9, Batch: five()})
		isState(t, "others that could be ours", a, api.AcceptorState{Marks: []uint64{0, 0, 0}})
	}
	a := recovered(t, small(),
		api.Record{Kind: api.RPromise, Bal: bal(1, 1), Slot: 1 << 50, Batch: bad, Data: []byte{1}},
		api.Record{Kind: api.RLow, Bal: bal(101, 9), Slot: 3, Batch: bad, Data: []byte{1}},
		api.Record{Kind: api.RVote, Bal: bal(1, 1), Slot: 4, Data: []byte{1}})
	isState(t, "what is not used", a, api.AcceptorState{Max: bal(1, 1), Low: 3, Votes: []api.Vote{vote(4, bal(1, 1), empty())}, Marks: []uint64{0, 0, 0}})
}

// What the records do, one by one.
func TestP10_2Taken(t *testing.T) {
	zero := []uint64{0, 0, 0}
	for what, c := range map[string]struct {
		recs []api.Record
		want api.AcceptorState
	}{
		"a lower promise": {[]api.Record{rPromise(bal(2, 1)), rPromise(bal(2, 0)), rPromise(bal(1, 2))}, api.AcceptorState{Max: bal(2, 1)}},
		"a higher one":    {[]api.Record{rPromise(bal(2, 1)), rPromise(bal(2, 2))}, api.AcceptorState{Max: bal(2, 2)}},
		"a vote below the promise": {[]api.Record{rPromise(bal(5, 1)), rVote(bal(2, 0), 1, five())},
			api.AcceptorState{Max: bal(5, 1), Votes: []api.Vote{vote(1, bal(2, 0), five())}}},
		"a vote above the promise": {[]api.Record{rPromise(bal(1, 1)), rVote(bal(2, 0), 1, five())},
			api.AcceptorState{Max: bal(2, 0), Votes: []api.Vote{vote(1, bal(2, 0), five())}}},
		"a newer vote": {[]api.Record{rVote(bal(1, 0), 1, five()), rVote(bal(1, 1), 1, two())},
			api.AcceptorState{Max: bal(1, 1), Votes: []api.Vote{vote(1, bal(1, 1), two())}}},
		"an older vote": {[]api.Record{rVote(bal(1, 1), 1, two()), rVote(bal(1, 0), 1, five())},
			api.AcceptorState{Max: bal(1, 1), Votes: []api.Vote{vote(1, bal(1, 1), two())}}},
		"of one ballot the last": {[]api.Record{rVote(bal(1, 1), 1, two()), rVote(bal(1, 1), 1, five())},
			api.AcceptorState{Max: bal(1, 1), Votes: []api.Vote{vote(1, bal(1, 1), five())}}},
		"a vote below low still has its ballot": {[]api.Record{rLow(7), rVote(bal(3, 1), 6, two())}, api.AcceptorState{Max: bal(3, 1), Low: 7}},
		"a vote at low":                         {[]api.Record{rLow(7), rVote(bal(3, 1), 7, two())}, api.AcceptorState{Max: bal(3, 1), Low: 7, Votes: []api.Vote{vote(7, bal(3, 1), two())}}},
		"the window's last":                     {[]api.Record{rLow(7), rVote(bal(3, 1), 10, two())}, api.AcceptorState{Max: bal(3, 1), Low: 7, Votes: []api.Vote{vote(10, bal(3, 1), two())}}},
		"one behind it":                         {[]api.Record{rLow(7), rVote(bal(3, 1), 11, two())}, api.AcceptorState{Max: bal(3, 1), Low: 8, Votes: []api.Vote{vote(11, bal(3, 1), two())}}},
		"low never falls":                       {[]api.Record{rLow(7), rLow(6), rLow(0)}, api.AcceptorState{Low: 7}},
		"low drops what is below it": {[]api.Record{rVote(bal(1, 0), 3, five()), rVote(bal(1, 0), 2, two()), rVote(bal(1, 0), 1, five()), rLow(2)},
			api.AcceptorState{Max: bal(1, 0), Low: 2, Votes: []api.Vote{vote(2, bal(1, 0), two()), vote(3, bal(1, 0), five())}}},
		"a lower low drops nothing": {[]api.Record{rLow(2), rVote(bal(1, 0), 2, two()), rLow(1)},
			api.AcceptorState{Max: bal(1, 0), Low: 2, Votes: []api.Vote{vote(2, bal(1, 0), two())}}},
		"a far vote drops what falls out": {[]api.Record{rVote(bal(1, 0), 0, five()), rVote(bal(1, 0), 1, two()), rVote(bal(1, 0), 2, five()), rVote(bal(1, 0), 5, empty())},
			api.AcceptorState{Max: bal(1, 0), Low: 2, Votes: []api.Vote{vote(2, bal(1, 0), five()), vote(5, bal(1, 0), empty())}}},
		"even one of an old ballot": {[]api.Record{rVote(bal(9, 0), 0, five()), rVote(bal(1, 0), 4, two())},
			api.AcceptorState{Max: bal(9, 0), Low: 1, Votes: []api.Vote{vote(4, bal(1, 0), two())}}},
	} {
		c.want.Marks = zero
		isState(t, what, recovered(t, small(), c.recs...), c.want)
	}
}
