package replica_test

import (
	"testing"

	"quorum/acceptor"
	"quorum/api"
	"quorum/ballot"
	"quorum/election"
	"quorum/learner"
	"quorum/proposer"
	"quorum/replica"
	"quorum/session"
	"quorum/xfer"
)

// freshState is what a replica that has never run must be.
func freshState(t testing.TB, c api.Config, now uint64) api.ReplicaState {
	t.Helper()
	return api.ReplicaState{
		Now:      now,
		BeatAt:   now,
		Acceptor: api.AcceptorState{Marks: make([]uint64, 2*c.F+1)},
		Election: api.ElectionState{View: bal(1, 0), Length: c.Epoch, EpochEnd: min(now+c.Epoch, api.MaxTick)},
		Machine:  machineOf(t).Image(),
	}
}

func TestP15_1New(t *testing.T) {
	for _, c := range []api.Config{small(), narrow(), wide()} {
		for self := range 2*c.F + 1 {
			for _, now := range []uint64{0, 1, 77, api.MaxTick - 1, api.MaxTick} {
				isState(t, "New", begunOf(t, c, self, now), freshState(t, c, now))
				isState(t, "Recover", recoveredOf(t, c, self, nil, now), freshState(t, c, now))
				isState(t, "Recover", recoveredOf(t, c, self, []api.Record{}, now), freshState(t, c, now))
			}
		}
	}
	r, err := replica.New(small(), 0, nil, 0)
	if err != nil || len(r.State().Machine.House.Book.Accounts) != 0 {
		t.Errorf("without accounts: %v", err)
	}
}

// New refuses what Recover refuses without records.
func TestP15_1Refusals(t *testing.T) {
	bad := with(func(c *api.Config) { c.Beat = 0 })
	_, why := ballot.New(bad)
	r, err := replica.New(bad, 9, []api.Account{{}}, most)
	isFault(t, "configuration", r, err, why, 0)
	r, err = replica.New(small(), 3, []api.Account{{}}, most)
	isFault(t, "self", r, err, api.ErrReplicaNode, 1)
	r, err = replica.New(small(), 2, []api.Account{{}}, api.MaxTick+1)
	isFault(t, "clock", r, err, api.ErrReplicaClock, 2)
	_, why = session.New([]api.Account{{}})
	r, err = replica.New(small(), 2, []api.Account{{}}, api.MaxTick)
	isFault(t, "accounts", r, err, why, 3)
}

// given is what Recover is given.
type given struct {
	c        api.Config
	self     int
	accounts []api.Account
	recs     []api.Record
	now      uint64
}

// wrong is one thing that may be the matter; rank is its place in the order of the refusals, and why tells what is refused then, and where.
type wrong struct {
	what string
	rank int
	do   func(*given)
	why  func(given) (error, int)
}

func wrongs() []wrong {
	plain := func(why error, at int) func(given) (error, int) {
		return func(given) (error, int) { return why, at }
	}
	ofBallot := func(g given) (error, int) {
		_, err := ballot.New(g.c)
		return err, 0
	}
	ofSession := func(g given) (error, int) {
		_, err := session.New(g.accounts)
		return err, 3
	}
	list := []wrong{
		{"F", 0, func(g *given) { g.c.F = 4 }, ofBallot},
		{"MaxSlot", 0, func(g *given) { g.c.MaxSlot = 0 }, ofBallot},
		{"an account of number 0", 3, func(g *given) { g.accounts = []api.Account{{}} }, ofSession},
		{"an account above its cap", 3, func(g *given) { g.accounts[1].Balance = 501 }, ofSession},
	}
	for _, self := range []int{-1, 3, 7, 1 << 32, -1 << 63} {
		list = append(list, wrong{"self", 1, func(g *given) { g.self = self }, plain(api.ErrReplicaNode, 1)})
	}
	for _, now := range []uint64{api.MaxTick + 1, most} {
		list = append(list, wrong{"clock", 2, func(g *given) { g.now = now }, plain(api.ErrReplicaClock, 2)})
	}
	return append(list, wrongRecords()...)
}

// wrongRecords are those that lie in the records. The good ones have their last checkpoint at place 2, and eight in all.
func wrongRecords() []wrong {
	checkFault := func(g given) (error, int) {
		_, err := session.Load(g.recs[2].Data)
		if err == nil {
			return api.ErrReplicaCheck, 6
		}
		return err, 6
	}
	ofAcceptor := func(g given) (error, int) {
		_, err := acceptor.Recover(g.c, g.self, g.recs)
		return err, 12
	}
	ofProposer := func(g given) (error, int) {
		_, err := proposer.Recover(g.c, g.self, g.recs)
		return err, 12
	}
	return []wrong{
		{"no bytes", 4, func(g *given) { g.recs[2].Data = nil }, checkFault},
		{"a byte less", 4, func(g *given) { g.recs[2].Data = g.recs[2].Data[:len(g.recs[2].Data)-1] }, checkFault},
		{"a byte more", 4, func(g *given) { g.recs[2].Data = append([]byte{}, append(g.recs[2].Data, 0)...) }, checkFault},
		{"a lower slot", 4, func(g *given) { g.recs[2].Slot = 1 }, checkFault},
		{"slot 0", 4, func(g *given) { g.recs[2].Slot = 0 }, checkFault},
		{"a higher slot", 4, func(g *given) { g.recs[2].Slot = 3 }, checkFault},
		{"the greatest slot", 4, func(g *given) { g.recs[2].Slot = most }, checkFault},
		{"no promise", 5, func(g *given) { g.recs[3].Bal = api.Ballot{} }, ofAcceptor},
		{"a promise to nobody", 5, func(g *given) { g.recs[0].Bal.Node = 3 }, ofAcceptor},
		{"a vote past the last slot", 5, func(g *given) { g.recs[5].Slot = 1000 }, ofAcceptor},
		{"a low past the last slot", 5, func(g *given) { g.recs[4].Slot = 1001 }, ofAcceptor},
		{"another's start", 6, func(g *given) { g.recs[7].Bal.Node = 1 }, ofProposer},
		{"a start of none", 6, func(g *given) { g.recs[6].Bal = api.Ballot{} }, ofProposer},
	}
}

// good is what Recover takes; at place 1 lies an older checkpoint, which nobody reads.
func good(t testing.TB) given {
	t.Helper()
	return given{small(), 2, accounts(), []api.Record{
		{Kind: api.RPromise, Bal: bal(3, 1)},
		check(7, []byte("none")),
		check(2, snapshotOf(t, batch(4, req(300, 1, transfer(30)...)), batch(5))),
		{Kind: api.RPromise, Bal: bal(4, 1)},
		{Kind: api.RLow, Slot: 1},
		{Kind: api.RVote, Bal: bal(4, 2), Slot: 3, Batch: batch(6, req(301, 1, balance()...))},
		{Kind: api.RStart, Bal: bal(5, 2)},
		{Kind: api.RStart, Bal: bal(4, 2)},
	}, 70}
}

// All that may be the matter, alone and two at a time.
func TestP15_2Refusals(t *testing.T) {
	refused := func(what string, g given, w wrong) {
		t.Helper()
		why, at := w.why(g)
		r, err := replica.Recover(g.c, g.self, g.accounts, g.recs, g.now)
		if why == nil {
			t.Fatalf("%s: nothing is wrong there", what)
		}
		isFault(t, what, r, err, why, at)
	}
	list := wrongs()
	for _, x := range list {
		g := good(t)
		x.do(&g)
		refused(x.what, g, x)
		for _, y := range list {
			if x.rank < y.rank {
				g := good(t)
				y.do(&g)
				x.do(&g)
				refused(x.what+" and "+y.what, g, x)
			}
		}
	}
}

// A checkpoint's slot may be MaxSlot and no more, whatever a machine may reach.
func TestP15_2LastSlot(t *testing.T) {
	for _, c := range []api.Config{narrow(), small(), wide()} {
		r := recoveredOf(t, c, 0, []api.Record{check(c.MaxSlot, snapshotAt(t, c.MaxSlot))}, 0)
		if s := r.State(); s.Mark != c.MaxSlot || s.Machine.Slot != c.MaxSlot || s.Learner.Low != c.MaxSlot || s.Supplier.Slot != c.MaxSlot {
			t.Errorf("at the last slot: %+v", s)
		}
		if c.MaxSlot < api.MaxSlots {
			r, err := replica.Recover(c, 0, accounts(), []api.Record{check(c.MaxSlot+1, snapshotAt(t, c.MaxSlot+1))}, 0)
			isFault(t, "past the last slot", r, err, api.ErrReplicaCheck, 4)
		}
	}
}

// The last checkpoint counts, at whatever place it lies and whatever its slot is.
func TestP15_2LastCheck(t *testing.T) {
	data := func(slot uint64) []byte { return snapshotAt(t, slot) }
	for n := range 6 {
		var recs []api.Record
		for range n {
			recs = append(recs, api.Record{Kind: api.RPromise, Bal: bal(2, 1)}, check(9, nil))
		}
		recs = append(recs, check(4, data(4)))
		r := recoveredOf(t, small(), 0, recs, 0)
		if s := r.State(); s.Mark != 4 || s.Machine.Slot != 4 {
			t.Errorf("behind %d others: %+v", n, s)
		}
		at := len(recs) - 1
		recs = append(recs, api.Record{Kind: api.RLow, Slot: 2}, api.Record{})
		recs[at].Slot = 5
		r, err := replica.Recover(small(), 0, accounts(), recs, 0)
		isFault(t, "another slot", r, err, api.ErrReplicaCheck, 4+at)
	}
	recs := []api.Record{check(8, data(8)), check(4, data(4))}
	if s := recoveredOf(t, small(), 0, recs, 0).State(); s.Mark != 4 || s.Machine.Slot != 4 || s.Supplier.Slot != 4 {
		t.Errorf("a lower one behind a higher one: %+v", s)
	}
}

// A checkpoint of slot 0 gives its machine, whatever the accounts are, but nothing to supply.
func TestP15_2SlotZero(t *testing.T) {
	other, err := session.New([]api.Account{{ID: 9, Owner: 400, Balance: 5, Cap: 6}})
	if err != nil {
		t.Fatal(err)
	}
	s := recoveredOf(t, small(), 1, []api.Record{check(0, packed(t, other))}, 3).State()
	want := freshState(t, small(), 3)
	want.Machine = other.Image()
	if !same(s, want) {
		t.Errorf("%+v, want %+v", s, want)
	}
}

// Every part of a replica that begins again.
func TestP15_2State(t *testing.T) {
	g := good(t)
	data := g.recs[2].Data
	a, _ := acceptor.Recover(g.c, g.self, g.recs)
	p, _ := proposer.Recover(g.c, g.self, g.recs)
	e, _ := election.Recover(g.c, g.self, g.now, g.recs)
	l, _ := learner.New(g.c, 2)
	s, _ := xfer.NewSupplier(g.c, g.self)
	s.Put(2, data)
	want := api.ReplicaState{
		Now: 70, BeatAt: 70, Mark: 2,
		Acceptor: a.State(), Proposer: p.State(), Election: e.State(), Learner: l.State(), Supplier: s.State(),
		Machine: machineOf(t, batch(4, req(300, 1, transfer(30)...)), batch(5)).Image(),
	}
	if want.Acceptor.Max != bal(4, 2) || want.Acceptor.Low != 1 || len(want.Acceptor.Votes) != 1 || want.Proposer.Bal != bal(5, 2) || want.Election.View != bal(5, 2) || want.Election.EpochEnd != 80 || want.Learner.Low != 2 {
		t.Fatalf("the roles themselves: %+v", want)
	}
	r := recoveredOf(t, g.c, g.self, g.recs, g.now)
	isState(t, "begun again", r, want)
	if out := hear(t, r, 70, 0, api.Msg{Kind: api.KWant, Slot: 2}); len(out.Sends) != 1 || !same(out.Sends[0].Msg.Data, data) {
		t.Errorf("the checkpoint is not supplied: %+v", out)
	}
	if out := hear(t, r, 70, 300, request(1)); !same(out.Sends, replied(300, 1, 4)) {
		t.Errorf("the reply in the checkpoint: %+v", out)
	}
}

// What a replica is begun with is that of its own number and configuration.
func TestP15_2Self(t *testing.T) {
	for f := 1; f <= api.MaxF; f++ {
		c := with(func(c *api.Config) { c.F = f })
		for self := range 2*f + 1 {
			r := recoveredOf(t, c, self, []api.Record{{Kind: api.RStart, Bal: bal(3, self)}, check(2, snapshotAt(t, 2))}, 0)
			if s := r.State(); s.Proposer.Bal != bal(3, self) || s.Election.View != bal(3, self) || len(s.Acceptor.Marks) != 2*f+1 {
				t.Errorf("replica %d: %+v", self, s)
			}
			// neither supplier nor fetcher deals with the own number
			if out := hear(t, r, 0, api.Addr(self), want(2, 0)); out.Sends != nil {
				t.Errorf("replica %d supplies itself", self)
			}
			silent(t, "fetching of itself", r, 0, api.Addr(self), lead(bal(3, self), 9))
			peer := api.Addr((self + 1) % (2*f + 1))
			if out := hear(t, r, 0, peer, want(2, 0)); len(out.Sends) != 1 || out.Sends[0].To != peer {
				t.Errorf("replica %d supplies not: %+v", self, out)
			}
			// it suspects as itself
			hear(t, r, 0, 400, request(1))
			does(t, r, api.ActTimeout, 10)
			does(t, r, api.ActTimeout, 20)
			if s := r.State().Election.Suspects; s != 1<<self {
				t.Errorf("replica %d: %b suspect", self, s)
			}
		}
	}
}
