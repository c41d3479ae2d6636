package learner_test

import (
	"testing"

	"quorum/api"
	"quorum/ballot"
	"quorum/learner"
)

func TestP12_1Config(t *testing.T) {
	for _, change := range []func(*api.Config){
		func(c *api.Config) { c.F = 0 },
		func(c *api.Config) { c.F = 4 },
		func(c *api.Config) { c.F = -1 },
		func(c *api.Config) { c.MaxBatch = 9 },
		func(c *api.Config) { c.Delay = 1001 },
		func(c *api.Config) { c.Window = 9 },
		func(c *api.Config) { c.Every = 5 },
		func(c *api.Config) { c.Beat = 0 },
		func(c *api.Config) { c.Epoch = 0 },
		func(c *api.Config) { c.EpochMax = 19 },
		func(c *api.Config) { c.MaxNum = 0 },
		func(c *api.Config) { c.MaxSlot = 1<<40 + 1 },
		func(c *api.Config) { c.MaxSlot = 0 },
		func(c *api.Config) { *c = api.Config{} },
	} {
		c := small()
		change(&c)
		_, why := ballot.New(c)
		if why == nil {
			t.Fatalf("ballot takes %+v", c)
		}
		// The configuration is looked at ahead of the slot.
		for _, low := range []uint64{0, c.MaxSlot, c.MaxSlot + 1, 1<<64 - 1} {
			l, err := learner.New(c, low)
			isFault(t, "a wrong configuration", l, err, why, 0)
		}
	}
}

func TestP12_1Slot(t *testing.T) {
	for _, c := range []api.Config{small(), narrow(), wide()} {
		for _, low := range []uint64{c.MaxSlot + 1, c.MaxSlot + 16, 1 << 63, 1<<64 - 1} {
			l, err := learner.New(c, low)
			isFault(t, "a low too high", l, err, api.ErrLearnerSlot, 1)
		}
		for _, low := range []uint64{0, 1, c.MaxSlot - 1, c.MaxSlot} {
			isState(t, "a new one", madeOf(t, c, low), state(low))
		}
	}
}

// Each of the reasons that a message does not count, alone, against an empty learner and one with tallies.
func TestP12_2DoesNotCount(t *testing.T) {
	fresh, used := made(t), made(t)
	for slot := range uint64(16) {
		used.Accept(0, accept(bal(1, 0), slot, batchC()))
	}
	for _, l := range []*learner.Learner{fresh, used} {
		good := func() api.Msg { return accept(bal(7, 1), 2, batchB()) }
		for kind := range api.Kind(32) {
			if m := good(); kind != api.KAccept {
				m.Kind = kind
				leaves(t, "another kind", l, 1, m)
			}
		}
		for _, src := range []api.Addr{3, 4, 7, 31, 32, 255, 256, 300, 1 << 32, 1 << 63, 1<<64 - 1} {
			leaves(t, "no replica", l, src, good())
		}
		for what, b := range badBallots() {
			m := good()
			m.Bal = b
			leaves(t, what, l, 1, m)
		}
		for _, slot := range []uint64{16, 17, 99, 100, 101, 1 << 40, 1<<64 - 1} {
			m := good()
			m.Slot = slot
			leaves(t, "too far", l, 1, m)
		}
		for what, b := range badBatches() {
			m := good()
			m.Batch = b
			leaves(t, what, l, 1, m)
		}
		takes(t, "the same without a fault", l, 1, good())
	}
}

// A message that does not count does not join a tally of its own ballot either.
func TestP12_2DoesNotJoin(t *testing.T) {
	l := made(t)
	takes(t, "one", l, 0, accept(bal(7, 1), 2, batchB()))
	for _, src := range []api.Addr{3, 32, 33, 256 + 1, 1<<32 + 1, 1<<64 - 1} {
		leaves(t, "no replica", l, src, accept(bal(7, 1), 2, batchB()))
	}
	m := accept(bal(7, 1), 2, batchB())
	m.Kind = api.KPropose
	leaves(t, "another kind", l, 1, m)
	isOpen(t, "one of three", l, 2)
}

// The window of slots, from every low.
func TestP12_2Slots(t *testing.T) {
	for _, c := range []api.Config{small(), narrow(), wide()} {
		for _, low := range []uint64{0, 1, 2, 17, 83, 84, 85, 99, 100, 1<<40 - 17, 1<<40 - 16, 1<<40 - 1, 1 << 40} {
			if low > c.MaxSlot {
				continue
			}
			for _, slot := range []uint64{0, low - 1, low, low + 1, low + 8, low + 14, low + 15, low + 16, low + 17, c.MaxSlot - 1, c.MaxSlot, c.MaxSlot + 1, 1<<64 - 1} {
				want := low <= slot && slot-low < 16 && slot < c.MaxSlot
				l := madeOf(t, c, low)
				if got := l.Accept(2, accept(bal(1, 0), slot, batchB())); got != want {
					t.Errorf("low %d of %d: slot %d: %v", low, c.MaxSlot, slot, got)
				}
				if want {
					isState(t, "a slot", l, state(low, tally(slot, bal(1, 0), 4, batchB(), false)))
				} else {
					isState(t, "no slot", l, state(low))
				}
			}
		}
	}
}

// The limits of replicas, ballots and batches.
func TestP12_2Limits(t *testing.T) {
	for _, c := range []api.Config{narrow(), small(), withF(2), withF(3), wide()} {
		last := 2 * c.F
		for _, b := range []api.Ballot{bal(1, 0), bal(1, last), bal(c.MaxNum, 0), bal(c.MaxNum, last)} {
			for _, src := range []int{0, last} {
				l := madeOf(t, c, 0)
				takes(t, "at a limit", l, api.Addr(src), accept(b, 0, fullBatch()))
				isState(t, "at a limit", l, state(0, tally(0, b, 1<<src, fullBatch(), false)))
			}
		}
		for _, b := range []api.Ballot{bal(0, 0), bal(0, last), bal(c.MaxNum+1, 0), bal(1, last+1), bal(1, -1)} {
			leaves(t, "past a limit", madeOf(t, c, 0), 0, accept(b, 0, fullBatch()))
			leaves(t, "past a limit, the empty batch", madeOf(t, c, 0), 0, accept(b, 0, api.Batch{}))
		}
		leaves(t, "past the last replica", madeOf(t, c, 0), api.Addr(last+1), accept(bal(1, 0), 0, fullBatch()))
	}
	l := made(t)
	takes(t, "the empty batch", l, 0, accept(bal(1, 0), 0, api.Batch{}))
	takes(t, "one without a list", l, 1, accept(bal(1, 0), 0, api.Batch{Reqs: []api.Request{}}))
	isDecided(t, "the empty batch", l, 0, api.Batch{})
	takes(t, "the least request", l, 0, accept(bal(1, 0), 1, batch(0, req(256, 1))))
	takes(t, "with an empty command", l, 1, accept(bal(1, 0), 1, batch(0, api.Request{Client: 256, Seq: 1, Cmd: []byte{}})))
	isDecided(t, "the least request", l, 1, batch(0, req(256, 1)))
}

// Fields that an accept does not use are not looked at.
func TestP12_2OtherFields(t *testing.T) {
	m := accept(bal(7, 1), 2, batchB())
	m.Low, m.Seq, m.Stamp, m.Code, m.Cmd, m.Data = 9, 8, 1<<60, 77, make([]byte, 9000), []byte{1}
	m.Suspect, m.Index, m.Count, m.Votes = true, 99, 3, []api.Vote{{Slot: 1 << 50}}
	l := made(t)
	takes(t, "with all sorts of things", l, 0, m)
	takes(t, "without", l, 1, accept(bal(7, 1), 2, batchB()))
	isState(t, "both", l, state(0, tally(2, bal(7, 1), 3, batchB(), true)))
}

// The four ways of a message that counts, by how its ballot lies to that of the tally.
func TestP12_2Ballots(t *testing.T) {
	rising := []api.Ballot{bal(1, 0), bal(1, 1), bal(1, 2), bal(2, 0), bal(2, 1), bal(3, 0), bal(50, 2)}
	for i, a := range rising {
		for j, b := range rising {
			for src := range 3 {
				l := made(t)
				l.Accept(1, accept(a, 5, batchB()))
				m := accept(b, 5, batchC())
				if i < j {
					takes(t, "a higher one", l, api.Addr(src), m)
					isState(t, "a higher one", l, state(0, tally(5, b, 1<<src, batchC(), false)))
				} else {
					leaves(t, "not a higher one", l, api.Addr(src), m)
				}
			}
		}
	}
}

// A higher ballot with the same batch counts anew: votes of two ballots are never added up.
func TestP12_2NotAddedUp(t *testing.T) {
	l := madeOf(t, withF(2), 0)
	for n := range 2 {
		takes(t, "the lower ballot", l, api.Addr(n), accept(bal(1, 0), 5, batchB()))
	}
	takes(t, "a higher one", l, 2, accept(bal(1, 1), 5, batchB()))
	isState(t, "one alone", l, state(0, tally(5, bal(1, 1), 4, batchB(), false)))
	takes(t, "one who had voted", l, 1, accept(bal(1, 1), 5, batchB()))
	leaves(t, "the lower ballot", l, 3, accept(bal(1, 0), 5, batchB()))
	isOpen(t, "two of five", l, 5)
	takes(t, "the third", l, 0, accept(bal(1, 1), 5, batchB()))
	isState(t, "a quorum", l, state(0, tally(5, bal(1, 1), 7, batchB(), true)))
}

// Batches are the same only if all of it is.
func TestP12_2SameBatch(t *testing.T) {
	for what, x := range unlike() {
		l := made(t)
		l.Accept(0, accept(bal(1, 0), 0, batchB()))
		for _, src := range []api.Addr{0, 1, 2} {
			leaves(t, what, l, src, accept(bal(1, 0), 0, x))
		}
		r := made(t)
		r.Accept(0, accept(bal(1, 0), 0, x))
		leaves(t, what+", the other way round", r, 1, accept(bal(1, 0), 0, batchB()))
		takes(t, what+", in another slot", l, 1, accept(bal(1, 0), 1, x))
	}
	b := fullBatch()
	b.Reqs[7].Cmd[api.MaxCmd-1] = 1
	l := made(t)
	l.Accept(0, accept(bal(1, 0), 0, fullBatch()))
	leaves(t, "the last byte of all", l, 1, accept(bal(1, 0), 0, b))
	takes(t, "the full batch", l, 1, accept(bal(1, 0), 0, fullBatch()))
}

// F+1 replicas, not one fewer, whichever they are and in whatever order; then it is done for good.
func TestP12_2Done(t *testing.T) {
	for f := 1; f <= 3; f++ {
		nodes := 2*f + 1
		for first := range nodes {
			for step := 1; step < nodes; step++ {
				if step == 3 && nodes == 3 || nodes%step == 0 && step > 1 {
					continue
				}
				l := madeOf(t, withF(f), 9)
				var from api.NodeSet
				for k := range nodes {
					n := (first + k*step) % nodes
					m := accept(bal(4, 1), 12, batchB())
					if k > f {
						leaves(t, "it is done", l, api.Addr(n), m)
						continue
					}
					isOpen(t, "not yet", l, 12)
					takes(t, "one more", l, api.Addr(n), m)
					leaves(t, "the same again", l, api.Addr(n), m)
					from |= 1 << n
					isState(t, "one more", l, state(9, tally(12, bal(4, 1), from, batchB(), k == f)))
				}
				leaves(t, "a higher ballot", l, api.Addr(first), accept(bal(9, 0), 12, batchC()))
				leaves(t, "a higher ballot, the same batch", l, api.Addr(first), accept(bal(9, 0), 12, batchB()))
				leaves(t, "a lower ballot", l, api.Addr(first), accept(bal(1, 0), 12, batchC()))
				isDecided(t, "done", l, 12, batchB())
			}
		}
	}
}

func TestP12_3Decided(t *testing.T) {
	l := madeOf(t, small(), 3)
	l.Accept(0, accept(bal(1, 0), 4, batchB()))
	l.Accept(1, accept(bal(1, 0), 4, batchB()))
	l.Accept(1, accept(bal(1, 0), 5, batchC()))
	for range 2 {
		isDecided(t, "the one", l, 4, batchB())
		for _, slot := range []uint64{0, 2, 3, 5, 6, 18, 19, 99, 100, 101, 1<<64 - 1} {
			isOpen(t, "no other", l, slot)
		}
	}
}

func TestP12_4Forget(t *testing.T) {
	full := func() *learner.Learner {
		l := madeOf(t, small(), 10)
		for slot := uint64(10); slot < 26; slot += 3 {
			l.Accept(1, accept(bal(2, 1), slot, batchB()))
			if slot%2 == 0 {
				l.Accept(2, accept(bal(2, 1), slot, batchB()))
			}
		}
		return l
	}
	was := full().State()
	if len(was.Tallies) != 6 {
		t.Fatalf("%+v", was)
	}
	for _, below := range []uint64{0, 1, 9, 10, 11, 12, 13, 14, 16, 17, 24, 25, 26, 27, 60, 99, 100, 101, 1 << 40, 1<<64 - 1} {
		l := full()
		want := state(max(10, min(below, 100)))
		for _, x := range was.Tallies {
			if x.Slot >= below {
				want.Tallies = append(want.Tallies, x)
			}
		}
		for range 2 {
			l.Forget(below)
			isState(t, "forgotten", l, want)
		}
		for _, lower := range []uint64{0, below / 2, below - min(below, 1)} {
			l.Forget(lower)
			isState(t, "never back", l, want)
		}
		for _, x := range was.Tallies {
			if x.Slot < below || !x.Done {
				isOpen(t, "forgotten", l, x.Slot)
			} else {
				isDecided(t, "still there", l, x.Slot, batchB())
			}
			if x.Slot < below {
				leaves(t, "forgotten", l, 0, accept(bal(9, 0), x.Slot, batchB()))
			}
		}
	}
}

// Forgetting lets the window of slots go along, to its end at MaxSlot.
func TestP12_4Window(t *testing.T) {
	for low := range uint64(101) {
		l := made(t)
		l.Forget(low)
		for slot := range uint64(105) {
			want := low <= slot && slot < low+16 && slot < 100
			if got := l.Accept(1, accept(bal(1, 1), slot, batchB())); got != want {
				t.Errorf("Forget(%d), slot %d: %v", low, slot, got)
			}
		}
	}
	l := made(t)
	l.Forget(1<<64 - 1)
	l.Forget(5)
	isState(t, "all", l, state(100))
}

func TestP12_5Rising(t *testing.T) {
	for run := range 30 {
		d := &dice{uint64(run)}
		l := made(t)
		want := state(0)
		for slot := range uint64(16) {
			want.Tallies = append(want.Tallies, tally(slot, bal(1+slot%3, int(slot%3)), 1<<(slot%3), batch(slot), false))
		}
		order := want.Tallies
		order = append([]api.LearnerTally(nil), order...)
		for i := range order {
			j := d.below(i + 1)
			order[i], order[j] = order[j], order[i]
		}
		for _, x := range order {
			takes(t, "in any order", l, api.Addr(x.Slot%3), accept(x.Bal, x.Slot, x.Batch))
		}
		isState(t, "rising", l, want)
	}
}
