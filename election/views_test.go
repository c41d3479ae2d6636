package election_test

import (
	"math"
	"testing"

	"quorum/api"
	"quorum/election"
)

// filled has five requests in prev, three in this, and 0 and 2 suspect; its epoch ends at 45.
func filled(t *testing.T) *election.Election {
	t.Helper()
	e := madeOf(t, withF(1), 0, 5)
	asked(t, e, many(300, 4)...)
	e.Timeout(20)
	asked(t, e, many(304, 1)...)
	e.Timeout(35)
	asked(t, e, many(400, 3)...)
	e.Beat(2, beat(bal(1, 0), true), 36)
	isState(t, "filled", e, 0, filledState())
	return e
}

func filledState() api.ElectionState {
	return api.ElectionState{View: bal(1, 0), Suspects: 5, Length: 10, EpochEnd: 45, Prev: append(many(300, 4), many(304, 1)...), This: many(400, 3)}
}

// The two ways to a new view, with all that turns.
func TestP13_5NewView(t *testing.T) {
	wait := append(filledState().Prev, filledState().This...)
	for _, now := range []uint64{0, 36, 40, 45, 1000} { // a clock may also have gone back
		e := filled(t)
		if !e.Quorum(now) {
			t.Error("Quorum")
		}
		isState(t, "the next", e, 0, api.ElectionState{View: bal(1, 1), Length: 20, EpochEnd: now + 20, Prev: wait})
		for _, suspect := range []bool{false, true} {
			e = filled(t)
			if !e.Beat(1, beat(bal(7, 2), suspect), now) {
				t.Error("Beat")
			}
			want := api.ElectionState{View: bal(7, 2), Length: 20, EpochEnd: now + 20, Prev: wait}
			if suspect {
				want.Suspects = 2
			}
			isState(t, "a view that was heard of", e, 0, want)
		}
	}
}

// The length doubles up to EpochMax.
func TestP13_5Length(t *testing.T) {
	for _, c := range []api.Config{withEpochs(1, 10, 30), withEpochs(1, 10, 10), withEpochs(1, 10, 20), withEpochs(1, 10, 19), withEpochs(2, 1, 1), withEpochs(3, 7, 100000), wide()} {
		e, length := madeOf(t, c, 0, 0), c.Epoch
		for n := range uint64(30) {
			view := bal(2+n, int(n)%3)
			if !e.Beat(0, beat(view, false), n) {
				t.Fatal("Beat")
			}
			length = min(length*2, c.EpochMax)
			isState(t, "a longer epoch", e, 0, api.ElectionState{View: view, Length: length, EpochEnd: n + length})
		}
		if length != c.EpochMax {
			t.Errorf("the length is %d", length)
		}
	}
}

// No end is above the last tick, whatever the clock says.
func TestP13_5Ends(t *testing.T) {
	for _, now := range []uint64{1<<40 - 21, 1<<40 - 20, 1<<40 - 19, 1<<40 - 1, 1 << 40, 1<<40 + 1, 1 << 63, math.MaxUint64 - 20, math.MaxUint64 - 19, math.MaxUint64} {
		want := uint64(1 << 40)
		if now == 1<<40-21 {
			want--
		}
		for what, call := range map[string]func(*election.Election) bool{
			"Beat":   func(e *election.Election) bool { return e.Beat(1, beat(bal(1, 1), false), now) },
			"Quorum": func(e *election.Election) bool { return e.Quorum(now) },
		} {
			e := filled(t)
			if !call(e) {
				t.Error(what)
			}
			isState(t, what, e, 0, api.ElectionState{View: bal(1, 1), Length: 20, EpochEnd: want, Prev: e.Waiting()})
			if len(e.Waiting()) != 8 {
				t.Errorf("%s: %d wait", what, len(e.Waiting()))
			}
		}
	}
}

// Of prev and this together the first 32 stay: all sizes around that, by all three ways on which they come together.
func TestP13_5Room(t *testing.T) {
	for _, size := range [][2]int{{1, 30}, {1, 31}, {1, 32}, {31, 1}, {32, 1}, {31, 2}, {32, 0}, {32, 32}, {20, 12}, {20, 13}, {16, 16}, {5, 0}} {
		for what, call := range map[string]func(*election.Election) bool{
			"Beat":    func(e *election.Election) bool { return e.Beat(0, beat(bal(2, 1), false), 16) },
			"Quorum":  func(e *election.Election) bool { return e.Quorum(16) },
			"Timeout": func(e *election.Election) bool { return e.Timeout(25) },
		} {
			e := made(t)
			e.Beat(1, beat(bal(1, 0), true), 0)
			e.Beat(2, beat(bal(1, 0), true), 0)
			asked(t, e, many(300, size[0])...)
			e.Timeout(15)
			asked(t, e, many(400, size[1])...)
			if !call(e) {
				t.Error(what)
			}
			want := append(many(300, size[0]), many(400, size[1])...)
			s := e.State()
			if !same(s.Prev, want[:min(len(want), 32)]) || s.This != nil {
				t.Errorf("%s: %d and %d: %d and %d", what, size[0], size[1], len(s.Prev), len(s.This))
			}
			asked(t, e, many(500, 32)...) // this has all its room again
		}
	}
	// With nothing in prev.
	for size := range 33 {
		e := made(t)
		asked(t, e, many(300, size)...)
		e.Beat(0, beat(bal(1, 1), false), 6)
		isState(t, "nothing in prev", e, 0, api.ElectionState{View: bal(1, 1), Length: 20, EpochEnd: 26, Prev: many(300, size)})
	}
}

// What no heartbeat is, each reason alone, in views that it would change.
func TestP13_6Wrong(t *testing.T) {
	for _, view := range []api.Ballot{bal(1, 0), bal(1, 1), bal(2, 2)} {
		e := made(t)
		asked(t, e, req(300, 1))
		for kind := api.Kind(-1); kind < 20; kind++ {
			if kind == api.KBeat {
				continue
			}
			m := beat(view, true)
			m.Kind = kind
			stays(t, "another kind", e, func() bool { return e.Beat(1, m, 9) })
		}
		for _, src := range []api.Addr{3, 4, 31, 32, 33, 255, 256, 300, 1 << 32, 1 << 63, 1<<64 - 1} {
			stays(t, "no replica", e, func() bool { return e.Beat(src, beat(view, true), 9) })
		}
		for what, b := range badBallots() {
			for _, suspect := range []bool{false, true} {
				stays(t, what, e, func() bool { return e.Beat(1, beat(b, suspect), 9) })
			}
		}
	}
}

// The replicas that there are hang on F.
func TestP13_6Replicas(t *testing.T) {
	for f := 1; f <= api.MaxF; f++ {
		e := madeOf(t, withF(f), 0, 0)
		stays(t, "nobody", e, func() bool { return e.Beat(api.Addr(2*f+1), beat(bal(1, 0), true), 1) })
		stays(t, "a view of nobody's", e, func() bool { return e.Beat(0, beat(bal(1, 2*f+1), true), 1) })
		stays(t, "a view too far", e, func() bool { return e.Beat(0, beat(bal(1001, 0), true), 1) })
		var set api.NodeSet
		for n := 2 * f; n >= 0; n-- {
			if e.Beat(api.Addr(n), beat(bal(1, 0), true), 1) {
				t.Error("the view is no new one")
			}
			set |= 1 << n
			isState(t, "one more", e, 0, api.ElectionState{View: bal(1, 0), Suspects: set, Length: 10, EpochEnd: 10})
		}
		if !e.Beat(api.Addr(2*f), beat(bal(1000, 2*f), true), 3) || e.View() != bal(1000, 2*f) {
			t.Error("the last view")
		}
	}
}

// In the view itself only Suspect counts; a replica never takes its suspicion back. The clock does not matter.
func TestP13_6TheView(t *testing.T) {
	for _, now := range []uint64{0, 5, 44, 45, 1 << 40, 1<<64 - 1} {
		e := filled(t)
		for src := range api.Addr(3) {
			stays(t, "no suspicion", e, func() bool { return e.Beat(src, beat(bal(1, 0), false), now) })
		}
		stays(t, "again", e, func() bool { return e.Beat(2, beat(bal(1, 0), true), now) })
		if e.Beat(1, beat(bal(1, 0), true), now) {
			t.Error("the view is no new one")
		}
		want := filledState()
		want.Suspects = 7
		isState(t, "all three", e, 0, want)
	}
}

// Self's own heartbeat counts like another's.
func TestP13_6Self(t *testing.T) {
	e := madeOf(t, withF(1), 2, 0)
	if e.Beat(2, beat(bal(1, 0), true), 1) || !e.Suspecting() {
		t.Error("its own suspicion")
	}
	if !e.Beat(2, beat(bal(4, 1), false), 1) || e.Suspecting() || !e.Beat(2, beat(bal(5, 0), true), 1) || !e.Suspecting() {
		t.Error("its own views")
	}
}

// Views around the one that is on: lower ones do nothing, higher ones are taken.
func TestP13_6LowerAndHigher(t *testing.T) {
	for _, suspect := range []bool{false, true} {
		for _, b := range []api.Ballot{bal(1, 0), bal(1, 1), bal(1, 2), bal(2, 0), bal(5, 0)} {
			e := filled(t)
			e.Beat(0, beat(bal(5, 1), true), 40)
			stays(t, "a lower view", e, func() bool { return e.Beat(1, beat(b, suspect), 41) })
		}
		for _, b := range []api.Ballot{bal(5, 2), bal(6, 0), bal(6, 1), bal(1000, 2)} {
			e := filled(t)
			e.Beat(0, beat(bal(5, 1), true), 40)
			want := api.ElectionState{View: b, Length: 30, EpochEnd: 71, Prev: e.Waiting()}
			if suspect {
				want.Suspects = 2
			}
			if !e.Beat(1, beat(b, suspect), 41) {
				t.Error("a higher view")
			}
			isState(t, "a higher view", e, 0, want)
		}
	}
}

// What else a heartbeat has in it does not matter.
func TestP13_6Rest(t *testing.T) {
	e := made(t)
	m := beat(bal(1, 1), true)
	m.Slot, m.Low, m.Seq, m.Stamp, m.Code, m.Cmd, m.Data, m.Batch = 1<<63, 1<<63, 9, 1<<63, 9, make([]byte, 900), make([]byte, 900), ran(many(300, 9)...)
	if !e.Beat(2, m, 9) {
		t.Error("Beat")
	}
	isState(t, "the rest", e, 0, api.ElectionState{View: bal(1, 1), Suspects: 4, Length: 20, EpochEnd: 29})
}

func TestP13_7Before(t *testing.T) {
	e := filled(t)
	for _, now := range []uint64{0, 1, 35, 44} {
		stays(t, "before the end", e, func() bool { return e.Timeout(now) })
	}
	if !e.Timeout(45) {
		t.Error("at the end")
	}
	stays(t, "once", e, func() bool { return e.Timeout(45) })
}

// The end that is the last tick is reached again and again.
func TestP13_7LastTick(t *testing.T) {
	e := madeOf(t, small(), 1, 1<<40-3)
	asked(t, e, req(300, 1))
	stays(t, "before the last tick", e, func() bool { return e.Timeout(1<<40 - 1) })
	for n, now := range []uint64{1 << 40, 1<<40 + 1, 1 << 63, 1<<64 - 1, 1<<64 - 10, 1 << 40} {
		if !e.Timeout(now) {
			t.Error("the last tick")
		}
		want := api.ElectionState{View: bal(1, 0), Length: 10, EpochEnd: 1 << 40, Prev: list(req(300, 1))}
		if n > 0 {
			want.Suspects = 2
		}
		isState(t, "the last tick", e, 1, want)
	}
	stays(t, "a clock that went back", e, func() bool { return e.Timeout(1<<40 - 1) })
}

// Without anything in prev the length is the first again; suspicion, own and others', stays.
func TestP13_7Empty(t *testing.T) {
	for _, now := range []uint64{36, 37, 500} {
		e := made(t)
		e.Beat(0, beat(bal(1, 1), true), 6)
		e.Beat(2, beat(bal(2, 0), false), 6)
		e.Beat(0, beat(bal(2, 0), true), 6)
		e.Beat(2, beat(bal(2, 0), true), 6)
		asked(t, e, req(300, 1), req(301, 1))
		stays(t, "before", e, func() bool { return e.Timeout(35) })
		if !e.Timeout(now) {
			t.Error("Timeout")
		}
		isState(t, "an empty prev", e, 0, api.ElectionState{View: bal(2, 0), Suspects: 5, Length: 10, EpochEnd: now + 10, Prev: list(req(300, 1), req(301, 1))})
	}
	e := made(t)
	if !e.Timeout(15) || !e.Timeout(25) || !e.Timeout(99) {
		t.Error("Timeout")
	}
	isState(t, "nothing waits", e, 0, api.ElectionState{View: bal(1, 0), Length: 10, EpochEnd: 109})
}

// With something in prev the length stays as it is, and self suspects.
func TestP13_7Waits(t *testing.T) {
	for self := range 3 {
		e := madeOf(t, withF(1), self, 5)
		asked(t, e, req(300, 1))
		e.Beat(0, beat(bal(1, 1), false), 6)
		e.Beat(0, beat(bal(1, 2), false), 6)
		asked(t, e, req(301, 1))
		if !e.Timeout(36) {
			t.Error("Timeout")
		}
		isState(t, "it waits", e, self, api.ElectionState{View: bal(1, 2), Suspects: 1 << self, Length: 30, EpochEnd: 66, Prev: list(req(300, 1), req(301, 1))})
		if !e.Timeout(70) {
			t.Error("Timeout")
		}
		isState(t, "it waits on", e, self, api.ElectionState{View: bal(1, 2), Suspects: 1 << self, Length: 30, EpochEnd: 100, Prev: list(req(300, 1), req(301, 1))})
		e.Executed(ran(req(300, 1)))
		asked(t, e, req(302, 1))
		if !e.Timeout(100) {
			t.Error("Timeout")
		}
		isState(t, "one of two", e, self, api.ElectionState{View: bal(1, 2), Suspects: 1 << self, Length: 30, EpochEnd: 130, Prev: list(req(301, 1), req(302, 1))})
		e.Executed(ran(req(301, 1), req(302, 1)))
		if !e.Timeout(130) {
			t.Error("Timeout")
		}
		isState(t, "all have run", e, self, api.ElectionState{View: bal(1, 2), Suspects: 1 << self, Length: 10, EpochEnd: 140})
	}
}

// Each set of those who suspect, in each size of group.
func TestP13_8Sets(t *testing.T) {
	for f := 1; f <= api.MaxF; f++ {
		for set := range api.NodeSet(1) << (2*f + 1) {
			e := madeOf(t, withF(f), f, 0)
			n := 0
			for src := range 2*f + 1 {
				suspects := set>>src&1 == 1
				e.Beat(api.Addr(src), beat(bal(1, 0), suspects), 1)
				if suspects {
					n++
				}
			}
			if n <= f {
				stays(t, "too few", e, func() bool { return e.Quorum(2) })
				continue
			}
			if !e.Quorum(2) {
				t.Errorf("F %d: %b is a quorum", f, set)
			}
			isState(t, "the next", e, f, api.ElectionState{View: bal(1, 1), Length: 20, EpochEnd: 22})
			stays(t, "nobody suspects the next", e, func() bool { return e.Quorum(3) })
		}
	}
}

// From view to view, up to the last one, behind which there is none.
func TestP13_8Next(t *testing.T) {
	for _, c := range []api.Config{narrow(), small(), withEpochs(2, 3, 17), wide()} {
		c.MaxNum = min(c.MaxNum, 3)
		e, length := madeOf(t, c, 1, 0), c.Epoch
		for rank := range int(c.MaxNum) * (2*c.F + 1) {
			view := bal(uint64(rank/(2*c.F+1))+1, rank%(2*c.F+1))
			if e.View() != view {
				t.Fatalf("the view is %v, want %v", e.View(), view)
			}
			for src := range api.Addr(c.F + 1) {
				stays(t, "too few", e, func() bool { return e.Quorum(5) })
				e.Beat(src, beat(view, true), 5)
			}
			if view == bal(c.MaxNum, 2*c.F) {
				stays(t, "the last", e, func() bool { return e.Quorum(5) })
				break
			}
			if !e.Quorum(5) {
				t.Fatal("Quorum")
			}
			length = min(2*length, c.EpochMax)
			if s := e.State(); s.Length != length || s.EpochEnd != 5+length {
				t.Errorf("%v: %d, ends at %d", s.View, s.Length, s.EpochEnd)
			}
		}
	}
}

// A view of the greatest numbers.
func TestP13_8Great(t *testing.T) {
	e := madeOf(t, wide(), 6, 0)
	e.Beat(3, beat(bal(1<<40-1, 6), true), 1)
	for src := range api.Addr(4) {
		e.Beat(src, beat(bal(1<<40-1, 6), true), 1)
	}
	if !e.Quorum(1<<40) || e.View() != bal(1<<40, 0) {
		t.Errorf("the view is %v", e.View())
	}
	isState(t, "a great one", e, 6, api.ElectionState{View: bal(1<<40, 0), Length: 40000, EpochEnd: 1 << 40})
}

func TestP13_9Suspecting(t *testing.T) {
	for self := range 7 {
		e := madeOf(t, withF(3), self, 0)
		for src := range 7 {
			if src != self {
				e.Beat(api.Addr(src), beat(bal(1, 0), true), 0)
			}
		}
		if e.Suspecting() {
			t.Errorf("%d: the others suspect, not it", self)
		}
		e.Beat(api.Addr(self), beat(bal(1, 0), true), 0)
		if !e.Suspecting() {
			t.Errorf("%d suspects", self)
		}
		e.Quorum(1)
		if e.Suspecting() {
			t.Errorf("%d does not suspect the next view", self)
		}
	}
}

// Telling changes nothing, however often.
func TestP13_9Telling(t *testing.T) {
	e := filled(t)
	for range 3 {
		isState(t, "filled", e, 0, filledState())
	}
}
