package proposer_test

import (
	"math"
	"testing"

	"quorum/api"
)

func TestP11_7NotLeading(t *testing.T) {
	p := made(t)
	isNothing(t, "idle", p, func() api.Step { return p.Nominate(1, 1) })
	p = asking(t, many(4)...)
	isNothing(t, "asking", p, func() api.Step { return p.Nominate(1, 1) })
	p.Promise(1, promise(bal(5, 0), 0))
	p.Promise(2, promise(bal(5, 0), 0))
	isNothing(t, "not led yet", p, func() api.Step { return p.Nominate(1, 1) })
}

// Next and Flight follow low, whether something is proposed or not.
func TestP11_7Low(t *testing.T) {
	for _, c := range []struct {
		low, next uint64
		left      int
	}{{0, 5, 2}, {3, 5, 2}, {4, 5, 1}, {5, 5, 0}, {6, 6, 0}, {99, 99, 0}, {100, 100, 0}, {math.MaxUint64, math.MaxUint64, 0}} {
		p := timed(t)
		want := p.State()
		want.Next = c.next
		want.Flight = want.Flight[2-c.left:]
		if c.left == 0 {
			want.Flight = nil
		}
		isStep(t, "low", p.Nominate(13, c.low), api.Step{})
		isState(t, "low", p, want)
		isStep(t, "a lower low", p.Nominate(13, 0), api.Step{})
		isState(t, "a lower low", p, want)
	}
	p := timed(t)
	isStep(t, "while something is proposed", p.Nominate(14, 4), proposed(3, bal(5, 0), 5, batch(14, req(258, 1))))
	s := p.State()
	if !same(s.Flight, []api.Vote{vote(4, bal(5, 0), batch(8, r1(), s1())), vote(5, bal(5, 0), batch(14, req(258, 1)))}) || s.Next != 6 {
		t.Errorf("%+v", s)
	}
	q := timed(t)
	isStep(t, "at a slot further on", q.Nominate(14, 40), proposed(3, bal(5, 0), 40, batch(14, req(258, 1))))
	if s := q.State(); s.Next != 41 || !same(s.Flight, []api.Vote{vote(40, bal(5, 0), batch(14, req(258, 1)))}) {
		t.Errorf("%+v", s)
	}
}

// The window ends at low + Window, and all slots at MaxSlot; there the timer stays, too.
func TestP11_7Window(t *testing.T) {
	p := leading(t, small(), 10, nil, many(20)...)
	for slot := uint64(10); slot < 14; slot++ {
		if s := p.Nominate(1, 10); len(s.Sends) != 3 || s.Sends[0].Msg.Slot != slot {
			t.Fatalf("slot %d: %+v", slot, s)
		}
	}
	isNothing(t, "behind the window", p, func() api.Step { return p.Nominate(1, 10) })
	isNothing(t, "a window below", p, func() api.Step { return p.Nominate(1, 9) })
	if s := p.Nominate(1, 11); len(s.Sends) != 3 || s.Sends[0].Msg.Slot != 14 {
		t.Fatalf("slot 14: %+v", s)
	}
	isNothing(t, "behind the next window", p, func() api.Step { return p.Nominate(1, 11) })

	q := leading(t, small(), 98, nil, many(3)...)
	q.Nominate(1, 98)
	isStep(t, "the timer", q.Nominate(1, 98), api.Step{})
	isStep(t, "the last slot", q.Nominate(6, 98), proposed(3, bal(5, 0), 99, batch(6, many(3)[2])))
	q.Request(r1())
	for _, low := range []uint64{98, 99, 100, 101, math.MaxUint64 - 3, math.MaxUint64} {
		isStep(t, "no slot is left", q.Nominate(9, low), api.Step{})
		if s := q.State(); s.Timed || len(s.Queue) != 1 || s.Next != max(low, 100) {
			t.Errorf("low %d: %+v", low, s)
		}
	}
	n := madeOf(t, narrow(), 0)
	n.Enter(bal(1, 0), many(3))
	n.Promise(0, promise(bal(1, 0), 0))
	n.Promise(1, promise(bal(1, 0), 0))
	n.Lead(0)
	isStep(t, "the only slot", n.Nominate(0, 0), proposed(3, bal(1, 0), 0, batch(0, many(1)...)))
	isNothing(t, "there is no other", n, func() api.Step { return n.Nominate(0, 0) })
	isStep(t, "not even then", n.Nominate(0, 1), api.Step{})
}

// At the edge of the window a timer that runs is left alone.
func TestP11_7WindowTimer(t *testing.T) {
	p := timed(t)
	isNothing(t, "behind the window", p, func() api.Step { return p.Nominate(99, 1) })
	isStep(t, "inside", p.Nominate(99, 3), proposed(3, bal(5, 0), 5, batch(99, req(258, 1))))
}

// votesOf gives three promises of {5 0} of replicas 0, 1, 2 and leads from 0 on.
func votesOf(t testing.TB, zero, one, two []api.Vote, waiting ...api.Request) (s []api.Step) {
	t.Helper()
	p := asking(t, waiting...)
	for n, votes := range [][]api.Vote{zero, one, two} {
		if !p.Promise(api.Addr(n), promise(bal(5, 0), 0, votes...)) {
			t.Fatalf("promise %d is not taken", n)
		}
	}
	p.Lead(0)
	for range 4 {
		s = append(s, p.Nominate(7, 0))
	}
	return s
}

// An old vote: the greatest ballot, wherever it is; of several the lowest replica's.
func TestP11_7OldVote(t *testing.T) {
	x := func(stamp uint64) api.Batch { return batch(stamp, req(400+stamp, 1)) }
	for what, c := range map[string]struct {
		zero, one, two []api.Vote
		want           api.Batch
	}{
		"one alone, the first":        {zero: []api.Vote{vote(1, bal(1, 0), x(1))}, want: x(1)},
		"one alone, the last":         {two: []api.Vote{vote(1, bal(1, 0), x(1))}, want: x(1)},
		"the first is the greatest":   {zero: []api.Vote{vote(1, bal(2, 2), x(1))}, one: []api.Vote{vote(1, bal(2, 1), x(2))}, two: []api.Vote{vote(1, bal(1, 2), x(3))}, want: x(1)},
		"the second is the greatest":  {zero: []api.Vote{vote(1, bal(2, 0), x(1))}, one: []api.Vote{vote(1, bal(2, 1), x(2))}, two: []api.Vote{vote(1, bal(1, 2), x(3))}, want: x(2)},
		"the third is the greatest":   {zero: []api.Vote{vote(1, bal(2, 0), x(1))}, one: []api.Vote{vote(1, bal(2, 1), x(2))}, two: []api.Vote{vote(1, bal(5, 0), x(3))}, want: x(3)},
		"two alike":                   {zero: []api.Vote{vote(1, bal(1, 0), x(1))}, one: []api.Vote{vote(1, bal(2, 1), x(2))}, two: []api.Vote{vote(1, bal(2, 1), x(3))}, want: x(2)},
		"three alike":                 {zero: []api.Vote{vote(1, bal(1, 0), x(1))}, one: []api.Vote{vote(1, bal(1, 0), x(2))}, two: []api.Vote{vote(1, bal(1, 0), x(3))}, want: x(1)},
		"greater ones in other slots": {zero: []api.Vote{vote(0, bal(4, 0), x(1)), vote(1, bal(1, 0), x(4)), vote(2, bal(3, 0), x(5))}, one: []api.Vote{vote(0, bal(4, 0), x(6)), vote(2, bal(4, 0), x(2))}, two: []api.Vote{vote(1, bal(1, 1), x(3)), vote(3, bal(4, 1), x(7))}, want: x(3)},
	} {
		isStep(t, what, votesOf(t, c.zero, c.one, c.two)[1], proposed(3, bal(5, 0), 1, c.want))
	}
}

// What the batch supersedes leaves the queue; the batch goes to what is open, as it is.
func TestP11_7OldVoteRequests(t *testing.T) {
	old := batch(2, req(256, 3), req(300, 1), req(300, 1), req(258, 1))
	p := leading(t, small(), 0, []api.Vote{vote(0, bal(1, 1), old), vote(2, bal(1, 1), old)}, req(256, 2), req(257, 9), req(256, 3), req(258, 2), req(300, 1), req(256, 4))
	isStep(t, "an old vote", p.Nominate(50, 0), proposed(3, bal(5, 0), 0, old))
	s := p.State()
	if !same(s.Queue, []api.Request{req(257, 9), req(258, 2), req(256, 4)}) || !same(s.Open, old.Reqs) || s.Timed {
		t.Errorf("%+v", s)
	}
	isStep(t, "a gap", p.Nominate(51, 0), proposed(3, bal(5, 0), 1, batch(51, req(257, 9), req(258, 2))))
	isStep(t, "the same vote in another slot", p.Nominate(52, 0), proposed(3, bal(5, 0), 2, old))
	s = p.State()
	open := append(append(append([]api.Request{}, old.Reqs...), req(257, 9), req(258, 2)), old.Reqs...)
	if !same(s.Queue, []api.Request{req(256, 4)}) || !same(s.Open, open) {
		t.Errorf("%+v", s)
	}
}

// A timer for which nothing waits any more goes at the next turn.
func TestP11_7NothingWaits(t *testing.T) {
	p := leading(t, small(), 0, nil, r1())
	p.Nominate(7, 0)
	if s := p.State(); !s.Timed || s.Until != 12 {
		t.Fatalf("%+v", s)
	}
	p.Executed(batch(0, r1()))
	if s := p.State(); !s.Timed || s.Until != 12 || s.Queue != nil {
		t.Errorf("the timer stays until it is asked for: %+v", s)
	}
	isStep(t, "nothing waits", p.Nominate(8, 0), api.Step{})
	if s := p.State(); s.Timed || s.Until != 0 {
		t.Errorf("nothing waits: %+v", s)
	}
	p.Request(r2())
	isStep(t, "a new timer", p.Nominate(9, 0), api.Step{})
	if s := p.State(); !s.Timed || s.Until != 14 {
		t.Errorf("a new timer: %+v", s)
	}
}

func TestP11_7Gap(t *testing.T) {
	late := []api.Vote{vote(3, bal(1, 1), batchA())}
	for _, c := range []struct{ waits, goes int }{{0, 0}, {1, 1}, {2, 2}, {3, 2}} {
		s := votesOf(t, nil, nil, late, many(c.waits)...)
		isStep(t, "a gap", s[0], proposed(3, bal(5, 0), 0, batch(7, many(c.goes)...)))
		isStep(t, "the next gap", s[1], proposed(3, bal(5, 0), 1, batch(7, many(c.waits)[c.goes:]...)))
		isStep(t, "the last gap", s[2], proposed(3, bal(5, 0), 2, batch(7)))
		isStep(t, "the vote", s[3], proposed(3, bal(5, 0), 3, batchA()))
	}
	s := votesOf(t, late, nil, nil)
	isStep(t, "of the first replica", s[0], proposed(3, bal(5, 0), 0, batch(7)))
	s = votesOf(t, []api.Vote{vote(0, bal(1, 1), batchB())}, late, nil)
	isStep(t, "behind a vote", s[1], proposed(3, bal(5, 0), 1, batch(7)))
	s = votesOf(t, []api.Vote{vote(0, bal(1, 1), batchB())}, nil, []api.Vote{vote(0, bal(1, 1), batchB())})
	isStep(t, "votes below are no gap", s[1], api.Step{})
}

// A batch that is not full waits from the first turn on that finds it so.
func TestP11_7Timer(t *testing.T) {
	p := leading(t, small(), 0, nil, many(1)...)
	isStep(t, "it waits", p.Nominate(7, 0), api.Step{})
	isState(t, "it waits", p, api.ProposerState{Phase: api.Leading, Bal: bal(5, 0), Promises: []api.Promised{{Node: 1}, {Node: 2}}, Queue: many(1), Timed: true, Until: 12})
	for _, now := range []uint64{7, 8, 11, 0} {
		isNothing(t, "not yet", p, func() api.Step { return p.Nominate(now, 0) })
	}
	isStep(t, "its time", p.Nominate(12, 0), proposed(3, bal(5, 0), 0, batch(12, many(1)...)))
	want := api.ProposerState{Phase: api.Leading, Bal: bal(5, 0), Next: 1, Promises: []api.Promised{{Node: 1}, {Node: 2}}, Open: many(1)}
	want.Flight = []api.Vote{vote(0, bal(5, 0), batch(12, many(1)...))}
	isState(t, "its time", p, want)

	p = leading(t, small(), 0, nil, many(1)...)
	p.Nominate(7, 0)
	p.Request(r1())
	isStep(t, "full ahead of its time", p.Nominate(8, 0), proposed(3, bal(5, 0), 0, batch(8, many(1)[0], r1())))
	if s := p.State(); s.Timed || s.Until != 0 {
		t.Errorf("the timer is left: %+v", s)
	}
	p = leading(t, small(), 0, nil, many(1)...)
	p.Nominate(7, 0)
	isStep(t, "long past its time", p.Nominate(99, 0), proposed(3, bal(5, 0), 0, batch(99, many(1)...)))
}

func TestP11_7Full(t *testing.T) {
	for size := 1; size <= api.MaxReqs; size++ {
		c := small()
		c.MaxBatch = size
		for waits := size; waits <= size+2; waits++ {
			p := leading(t, c, 0, nil, many(waits)...)
			isStep(t, "full", p.Nominate(3, 0), proposed(3, bal(5, 0), 0, batch(3, many(size)...)))
			s := p.State()
			if len(s.Queue) != waits-size || !same(s.Open, many(size)) || s.Timed {
				t.Errorf("size %d of %d: %+v", size, waits, s)
			}
		}
		if size > 1 {
			p := leading(t, c, 0, nil, many(size-1)...)
			isStep(t, "not full", p.Nominate(3, 0), api.Step{})
			isStep(t, "its time", p.Nominate(8, 0), proposed(3, bal(5, 0), 0, batch(8, many(size-1)...)))
		}
	}
	for f := 1; f <= api.MaxF; f++ {
		p := leading(t, withF(f), 0, nil, many(2)...)
		isStep(t, "to all", p.Nominate(3, 0), proposed(2*f+1, bal(5, 0), 0, batch(3, many(2)...)))
	}
}

// A clock past its end counts as its end, and a timer does not reach behind it.
func TestP11_7Clock(t *testing.T) {
	most := uint64(api.MaxTick)
	for _, now := range []uint64{most, most + 1, 1 << 63, math.MaxUint64} {
		p := leading(t, small(), 0, nil, many(3)...)
		isStep(t, "full", p.Nominate(now, 0), proposed(3, bal(5, 0), 0, batch(most, many(2)...)))
		isStep(t, "not full", p.Nominate(now, 0), proposed(3, bal(5, 0), 1, batch(most, many(3)[2])))
	}
	for back := uint64(1); back < 8; back++ {
		p := leading(t, small(), 0, nil, many(1)...)
		p.Nominate(most-back, 0)
		if s := p.State(); !s.Timed || s.Until != most-back+min(back, 5) {
			t.Errorf("%d ticks ahead of the end: %+v", back, s)
		}
		isStep(t, "at the end", p.Nominate(math.MaxUint64, 0), proposed(3, bal(5, 0), 0, batch(most, many(1)...)))
	}
	p := leading(t, wide(), 0, nil, many(1)...)
	p.Nominate(0, 0)
	isNothing(t, "not yet", p, func() api.Step { return p.Nominate(999, 0) })
	isStep(t, "the longest delay", p.Nominate(1000, 0), proposed(7, bal(5, 0), 0, batch(1000, many(1)...)))
}

// Without a delay nothing waits.
func TestP11_7NoDelay(t *testing.T) {
	c := small()
	c.Delay = 0
	p := leading(t, c, 0, nil, many(1)...)
	isStep(t, "at once", p.Nominate(4, 0), proposed(3, bal(5, 0), 0, batch(4, many(1)...)))
	if s := p.State(); s.Timed || s.Until != 0 {
		t.Errorf("the timer is left: %+v", s)
	}
}

// The greatest low of all lies ahead of the first promise's votes: those below it are never proposed again.
func TestP11_7VotesBelow(t *testing.T) {
	p := asking(t, r1(), s1())
	p.Promise(0, promise(bal(5, 0), 0, vote(0, bal(1, 1), batchA()), vote(2, bal(1, 1), batchA())))
	p.Promise(1, promise(bal(5, 0), 2, vote(4, bal(1, 1), batchB())))
	p.Lead(0)
	isStep(t, "at the greatest low", p.Nominate(7, 2), proposed(3, bal(5, 0), 2, batchA()))
	isStep(t, "low leaps over a vote", p.Nominate(7, 5), proposed(3, bal(5, 0), 5, batch(7, r1(), s1())))
}
