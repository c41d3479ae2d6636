package acceptor_test

import (
	"math"
	"testing"

	"quorum/acceptor"
	"quorum/api"
)

// voted gives an acceptor of small() with Max {5 1}, Low 3 and votes for 3, 4 and 6.
func voted(t testing.TB) *acceptor.Acceptor {
	t.Helper()
	return recovered(t, small(), rLow(3), rVote(bal(5, 1), 6, five()), rVote(bal(2, 0), 3, two()), rVote(bal(5, 1), 4, empty()))
}

func votedVotes() []api.Vote {
	return []api.Vote{vote(3, bal(2, 0), two()), vote(4, bal(5, 1), empty()), vote(6, bal(5, 1), five())}
}

// wrongSources sends a good message from all that do not lead its ballot.
func wrongSources(t *testing.T, what string, a *acceptor.Acceptor, m api.Msg, call func(api.Addr, api.Msg) api.Step) {
	t.Helper()
	for _, src := range []api.Addr{0, 1, 2, 3, 255, 256, 1 << 32, 1<<32 + api.Addr(m.Bal.Node), math.MaxUint64, 1 << 63} {
		if src != api.Addr(m.Bal.Node) {
			isNothing(t, what, a, func() api.Step { return call(src, m) })
		}
	}
}

// wrongKinds sends a good message under all other kinds.
func wrongKinds(t *testing.T, what string, a *acceptor.Acceptor, m api.Msg, call func(api.Addr, api.Msg) api.Step) {
	t.Helper()
	for kind := api.Kind(-1); kind < 13; kind++ {
		other := m
		other.Kind = kind
		if kind != m.Kind {
			isNothing(t, what, a, func() api.Step { return call(api.Addr(m.Bal.Node), other) })
		}
	}
}

// wrongBallots sends a good message under ballots that nobody leads, each from whom it names.
func wrongBallots(t *testing.T, a *acceptor.Acceptor, m api.Msg, call func(api.Addr, api.Msg) api.Step) {
	t.Helper()
	for what, b := range badBallots() {
		m.Bal = b
		isNothing(t, what, a, func() api.Step { return call(api.Addr(b.Node), m) })
	}
}

func TestP10_3Nothing(t *testing.T) {
	for _, make := range []func(testing.TB) *acceptor.Acceptor{made, voted} {
		a := make(t)
		m := api.Msg{Kind: api.KPrepare, Bal: bal(6, 2)}
		wrongKinds(t, "another kind", a, m, a.Prepare)
		wrongSources(t, "another replica", a, m, a.Prepare)
		wrongBallots(t, a, m, a.Prepare)
	}
	a := voted(t)
	for _, b := range []api.Ballot{bal(5, 0), bal(4, 2), bal(1, 0)} {
		isNothing(t, "a ballot below", a, func() api.Step { return prepare(a, b.Node, b) })
	}
}

func TestP10_3Promise(t *testing.T) {
	for _, b := range []api.Ballot{bal(5, 2), bal(6, 0), bal(6, 1), bal(100, 2)} {
		a := voted(t)
		isStep(t, "a ballot above", prepare(a, b.Node, b), promised(b.Node, b, 3, true, votedVotes()...))
		isState(t, "a ballot above", a, api.AcceptorState{Max: b, Low: 3, Votes: votedVotes(), Marks: []uint64{0, 0, 0}})
		isStep(t, "once more", prepare(a, b.Node, b), promised(b.Node, b, 3, false, votedVotes()...))
		isNothing(t, "the one that it was", a, func() api.Step { return prepare(a, 1, bal(5, 1)) })
	}
	// Max may come from a vote: the ballot is in the log with that.
	a := voted(t)
	isStep(t, "the ballot of a vote", prepare(a, 1, bal(5, 1)), promised(1, bal(5, 1), 3, false, votedVotes()...))
	isState(t, "the ballot of a vote", a, api.AcceptorState{Max: bal(5, 1), Low: 3, Votes: votedVotes(), Marks: []uint64{0, 0, 0}})
	b := madeOf(t, narrow())
	isStep(t, "the only number", prepare(b, 0, bal(1, 0)), promised(0, bal(1, 0), 0, true))
	isStep(t, "the last ballot", prepare(b, 2, bal(1, 2)), promised(2, bal(1, 2), 0, true))
}

// What a prepare does not use is not looked at.
func TestP10_3Unused(t *testing.T) {
	a := voted(t)
	m := stuffed(api.Msg{Kind: api.KPrepare, Bal: bal(6, 2)})
	m.Slot, m.Batch = math.MaxUint64, badBatches()["number 0"]
	isStep(t, "a stuffed prepare", a.Prepare(2, m), promised(2, bal(6, 2), 3, true, votedVotes()...))
}

// stuffed fills the fields that neither a prepare nor a proposal nor a heartbeat uses.
func stuffed(m api.Msg) api.Msg {
	m.Low, m.Votes, m.Seq, m.Stamp, m.Code = 9, []api.Vote{{Slot: 3}}, 7, math.MaxUint64, 5
	m.Cmd, m.Data, m.Suspect, m.Index, m.Count = []byte{1}, []byte{2}, true, 3, 4
	m.Root, m.Path = api.Hash{1}, []api.Hash{{2}}
	return m
}

func TestP10_4Nothing(t *testing.T) {
	for _, make := range []func(testing.TB) *acceptor.Acceptor{made, voted} {
		a := make(t)
		m := api.Msg{Kind: api.KPropose, Bal: bal(6, 2), Slot: 5, Batch: two()}
		wrongKinds(t, "another kind", a, m, a.Propose)
		wrongSources(t, "another replica", a, m, a.Propose)
		wrongBallots(t, a, m, a.Propose)
		for what, b := range badBatches() {
			isNothing(t, what, a, func() api.Step { return propose(a, 2, bal(6, 2), 5, b) })
		}
		for _, slot := range []uint64{1000, 1001, 1 << 40, 1 << 63, math.MaxUint64} {
			isNothing(t, "a slot too high", a, func() api.Step { return propose(a, 2, bal(6, 2), slot, two()) })
		}
	}
	a := voted(t)
	for _, slot := range []uint64{0, 1, 2} {
		isNothing(t, "a slot below low", a, func() api.Step { return propose(a, 2, bal(6, 2), slot, two()) })
	}
	for _, b := range []api.Ballot{bal(5, 0), bal(4, 2), bal(2, 0)} {
		for slot := uint64(3); slot < 9; slot++ {
			isNothing(t, "a ballot below", a, func() api.Step { return propose(a, b.Node, b, slot, two()) })
		}
	}
}

// Under one ballot a slot has one batch, whatever the difference.
func TestP10_4OtherBatch(t *testing.T) {
	a := made(t)
	propose(a, 1, bal(1, 1), 2, two())
	others := map[string]func(b *api.Batch){
		"the stamp":            func(b *api.Batch) { b.Stamp++ },
		"no requests":          func(b *api.Batch) { b.Reqs = nil },
		"one request less":     func(b *api.Batch) { b.Reqs = b.Reqs[:1] },
		"one request more":     func(b *api.Batch) { b.Reqs = append(b.Reqs, b.Reqs[0]) },
		"a client":             func(b *api.Batch) { b.Reqs[0].Client++ },
		"the last client":      func(b *api.Batch) { b.Reqs[1].Client++ },
		"a number":             func(b *api.Batch) { b.Reqs[0].Seq++ },
		"the last number":      func(b *api.Batch) { b.Reqs[1].Seq-- },
		"a command's byte":     func(b *api.Batch) { b.Reqs[0].Cmd[1]++ },
		"a longer command":     func(b *api.Batch) { b.Reqs[0].Cmd = append(b.Reqs[0].Cmd, 0) },
		"a shorter command":    func(b *api.Batch) { b.Reqs[0].Cmd = b.Reqs[0].Cmd[:1] },
		"a command where none": func(b *api.Batch) { b.Reqs[1].Cmd = []byte{0} },
		"the order":            func(b *api.Batch) { b.Reqs[0], b.Reqs[1] = b.Reqs[1], b.Reqs[0] },
	}
	for what, change := range others {
		b := two()
		change(&b)
		isNothing(t, what, a, func() api.Step { return propose(a, 1, bal(1, 1), 2, b) })
	}
	isStep(t, "the same", propose(a, 1, bal(1, 1), 2, two()), accepted(3, bal(1, 1), 2, two(), false))
	isStep(t, "another slot", propose(a, 1, bal(1, 1), 1, five()), accepted(3, bal(1, 1), 1, five(), true))
	isStep(t, "another ballot", propose(a, 2, bal(1, 2), 2, five()), accepted(3, bal(1, 2), 2, five(), true))
}

func TestP10_4Vote(t *testing.T) {
	for f := 1; f <= api.MaxF; f++ {
		c := small()
		c.F = f
		a, nodes := madeOf(t, c), 2*f+1
		b := bal(3, nodes-1)
		for _, batch := range []api.Batch{empty(), five(), two(), full()} {
			isStep(t, "a vote", propose(a, b.Node, b, 1, batch), accepted(nodes, b, 1, batch, true))
			want := api.AcceptorState{Max: b, Votes: []api.Vote{vote(1, b, batch)}, Marks: make([]uint64, nodes)}
			isState(t, "a vote", a, want)
			isStep(t, "once more", propose(a, b.Node, b, 1, batch), accepted(nodes, b, 1, batch, false))
			isState(t, "once more", a, want)
			b.Num++
		}
	}
}

// A batch with empty lists is the one without them, and is told without them.
func TestP10_4NilAndEmpty(t *testing.T) {
	a := made(t)
	hollow := api.Batch{Stamp: 5, Reqs: []api.Request{}}
	isStep(t, "an empty list", propose(a, 0, bal(1, 0), 0, hollow), accepted(3, bal(1, 0), 0, five(), true))
	isStep(t, "nil", propose(a, 0, bal(1, 0), 0, five()), accepted(3, bal(1, 0), 0, five(), false))
	isStep(t, "an empty list again", propose(a, 0, bal(1, 0), 0, hollow), accepted(3, bal(1, 0), 0, five(), false))
	bare := two()
	bare.Reqs[1].Cmd = []byte{}
	isStep(t, "an empty command", propose(a, 0, bal(1, 0), 1, bare), accepted(3, bal(1, 0), 1, two(), true))
	isStep(t, "no command", propose(a, 0, bal(1, 0), 1, two()), accepted(3, bal(1, 0), 1, two(), false))
	votes := []api.Vote{vote(0, bal(1, 0), five()), vote(1, bal(1, 0), two())}
	isState(t, "told", a, api.AcceptorState{Max: bal(1, 0), Votes: votes, Marks: []uint64{0, 0, 0}})
	b := recovered(t, small(), rVote(bal(1, 0), 0, hollow), rVote(bal(1, 0), 1, bare))
	isState(t, "out of records", b, api.AcceptorState{Max: bal(1, 0), Votes: votes, Marks: []uint64{0, 0, 0}})
	isStep(t, "promised", prepare(b, 1, bal(1, 1)), promised(1, bal(1, 1), 0, true, votes...))
	if recs := b.Records(); !same(recs[1:], []api.Record{rVote(bal(1, 0), 0, five()), rVote(bal(1, 0), 1, two())}) {
		t.Errorf("Records: %+v", recs)
	}
}

// Low is raised to hold a slot, and no further.
func TestP10_4Window(t *testing.T) {
	for _, slot := range []uint64{3, 4, 5, 6} {
		a := voted(t)
		propose(a, 2, bal(5, 2), slot, two())
		if a.Low() != 3 {
			t.Errorf("slot %d: Low is %d", slot, a.Low())
		}
	}
	a := voted(t)
	b := bal(7, 0)
	isStep(t, "one behind the window", propose(a, 0, b, 7, two()), accepted(3, b, 7, two(), true))
	isState(t, "one behind the window", a, api.AcceptorState{Max: b, Low: 4, Votes: append(votedVotes()[1:], vote(7, b, two())), Marks: []uint64{0, 0, 0}})
	isStep(t, "far behind it", propose(a, 0, b, 999, five()), accepted(3, b, 999, five(), true))
	isState(t, "far behind it", a, api.AcceptorState{Max: b, Low: 996, Votes: []api.Vote{vote(999, b, five())}, Marks: []uint64{0, 0, 0}})
	for _, slot := range []uint64{995, 7, 1000} {
		isNothing(t, "out of reach", a, func() api.Step { return propose(a, 0, b, slot, five()) })
	}
	isStep(t, "at low", propose(a, 0, b, 996, two()), accepted(3, b, 996, two(), true))
	most := uint64(1 << 40)
	w := madeOf(t, wide())
	propose(w, 6, bal(most, 6), most-1, full())
	isState(t, "the last slot of all", w, api.AcceptorState{Max: bal(most, 6), Low: most - 8, Votes: []api.Vote{vote(most-1, bal(most, 6), full())}, Marks: make([]uint64, 7)})
	isNothing(t, "behind it", w, func() api.Step { return propose(w, 6, bal(most, 6), most, full()) })
}

// A repeated vote of a ballot that is below by now is not told.
func TestP10_4Outdated(t *testing.T) {
	a := made(t)
	propose(a, 0, bal(1, 0), 0, two())
	prepare(a, 1, bal(1, 1))
	isNothing(t, "an old vote", a, func() api.Step { return propose(a, 0, bal(1, 0), 0, two()) })
	isStep(t, "voted anew, the batch the same", propose(a, 1, bal(1, 1), 0, two()), accepted(3, bal(1, 1), 0, two(), true))
}

func TestP10_4Unused(t *testing.T) {
	a := voted(t)
	m := stuffed(api.Msg{Kind: api.KPropose, Bal: bal(6, 2), Slot: 5, Batch: two()})
	isStep(t, "a stuffed proposal", a.Propose(2, m), accepted(3, bal(6, 2), 5, two(), true))
	isStep(t, "and again", a.Propose(2, m), accepted(3, bal(6, 2), 5, two(), false))
}

// Where the last slot is truncated there is none to vote for.
func TestP10_4End(t *testing.T) {
	a := recovered(t, small(), rLow(1000))
	for _, slot := range []uint64{0, 996, 999, 1000, 1001} {
		isNothing(t, "behind the end", a, func() api.Step { return propose(a, 1, bal(1, 1), slot, empty()) })
	}
	isStep(t, "a promise", prepare(a, 1, bal(1, 1)), promised(1, bal(1, 1), 1000, true))
}
