package learner_test

import (
	"slices"
	"testing"

	"quorum/api"
	"quorum/learner"
)

// heard is a message that counted, and from whom.
type heard struct {
	src api.Addr
	m   api.Msg
}

// second is a plainer learner: it keeps every message that counted, in their order, and looks all of them through whenever it is asked.
type second struct {
	c    api.Config
	low  uint64
	msgs []heard
}

// tally goes through the messages for a slot one after the other.
func (s *second) tally(slot uint64) (t api.LearnerTally, found bool) {
	for _, h := range s.msgs {
		switch {
		case h.m.Slot != slot || t.Done:
		case !found || below(t.Bal, h.m.Bal):
			t, found = api.LearnerTally{Slot: slot, Bal: h.m.Bal, From: 1 << h.src, Batch: h.m.Batch}, true
		case t.Bal == h.m.Bal && same(t.Batch, h.m.Batch):
			t.From |= 1 << h.src
		}
		n := 0
		for k := range 2*s.c.F + 1 {
			n += int(t.From >> k & 1)
		}
		t.Done = n > s.c.F
	}
	return t, found
}

func (s *second) state() api.LearnerState {
	told := api.LearnerState{Low: s.low}
	for slot := s.low; slot < s.low+16; slot++ {
		if t, found := s.tally(slot); found {
			told.Tallies = append(told.Tallies, t)
		}
	}
	return told
}

func (s *second) accept(src api.Addr, m api.Msg) bool {
	led := 1 <= m.Bal.Num && m.Bal.Num <= s.c.MaxNum && 0 <= m.Bal.Node && m.Bal.Node <= 2*s.c.F
	near := s.low <= m.Slot && m.Slot < s.low+16 && m.Slot < s.c.MaxSlot
	if m.Kind != api.KAccept || src > api.Addr(2*s.c.F) || !led || !near || !validBatch(m.Batch) {
		return false
	}
	was := s.state()
	s.msgs = append(s.msgs, heard{src, m})
	return !same(was, s.state())
}

func validBatch(b api.Batch) bool {
	for _, r := range b.Reqs {
		if r.Client < 256 || r.Seq < 1 || len(r.Cmd) > 700 {
			return false
		}
	}
	return b.Stamp <= 1<<40 && len(b.Reqs) <= 8
}

func (s *second) forget(below uint64) {
	s.low = max(s.low, min(below, s.c.MaxSlot))
	s.msgs = slices.DeleteFunc(s.msgs, func(h heard) bool { return h.m.Slot < s.low })
}

// batch gives one of a few batches, seldom one that may not be.
func (d *dice) batch() api.Batch {
	b := one(d, batchB(), batchB(), batchB(), batchB(), batchC(), fullBatch(), batch(uint64(d.below(2)), req(256, 1, byte(d.below(2)))))
	if d.below(25) == 0 {
		bad := badBatches()
		b = one(d, bad["nine requests"], bad["number 0"], bad["nobody's address at the end"], bad["the greatest stamp"])
	}
	return b
}

// message gives a message and its source, mostly one that counts.
func (d *dice) message(c api.Config, low uint64) (api.Addr, api.Msg) {
	top := min(c.MaxNum, 3)
	m := accept(bal(top-uint64(d.below(int(top))), one(d, 0, 1, 1)), low+uint64(one(d, 0, 0, 0, 1, 1, 2, d.below(18)))-uint64(d.below(2)), d.batch())
	src := api.Addr(d.below(2*c.F + 1))
	switch d.below(40) {
	case 0:
		src = one[api.Addr](d, api.Addr(2*c.F+1), 256, 1<<64-1)
	case 1:
		m.Kind = api.Kind(d.below(12))
	case 2:
		m.Bal = one(d, bal(0, 0), bal(0, 1), bal(c.MaxNum+1, 0), bal(1, 2*c.F+1), bal(1, -1))
	case 3:
		m.Slot = one[uint64](d, 0, c.MaxSlot-1, c.MaxSlot, 1<<64-1)
	}
	return src, m
}

// shapes are the configurations of the long runs.
func shapes() []api.Config {
	tight := small()
	tight.MaxNum, tight.MaxSlot = 3, 9
	long := wide()
	long.MaxSlot = 200
	return []api.Config{small(), narrow(), wide(), tight, long, withF(2)}
}

// The learner and the second one answer alike, and are alike behind each call.
func TestSecond(t *testing.T) {
	seen := map[string]int{}
	for at, c := range shapes() {
		for run := range 60 {
			d := &dice{uint64(100*at + run)}
			low := one(d, 0, 0, min(c.MaxSlot, 5), c.MaxSlot-1)
			l, s := madeOf(t, c, low), &second{c: c, low: low}
			for range 120 {
				seen[play(t, d, l, s)]++
				if !same(l.State(), s.state()) || l.Low() != s.low {
					t.Fatalf("%+v, want %+v", l.State(), s.state())
				}
			}
		}
	}
	for _, what := range []string{"taken", "left", "forgotten", "not forgotten", "decided", "open"} {
		if seen[what] < 200 {
			t.Errorf("%q came up %d times", what, seen[what])
		}
	}
}

// play does one call on both, wants them to answer alike, and tells how it went.
func play(t *testing.T, d *dice, l *learner.Learner, s *second) string {
	t.Helper()
	switch d.below(20) {
	case 0:
		was := s.low
		to := was + uint64(one(d, 0, 1, 1, 2)) - uint64(d.below(2))
		if d.below(40) == 0 {
			to = one[uint64](d, 0, s.c.MaxSlot, 1<<64-1, was+15, was+16)
		}
		l.Forget(to)
		s.forget(to)
		if s.low == was {
			return "not forgotten"
		}
		return "forgotten"
	case 1, 2:
		slot := s.low + uint64(one(d, 0, 0, 1, 2, 3)) - uint64(d.below(10)/9)
		want, _ := s.tally(slot)
		if !want.Done {
			isOpen(t, "open", l, slot)
			return "open"
		}
		isDecided(t, "decided", l, slot, want.Batch)
		return "decided"
	}
	src, m := d.message(s.c, s.low)
	got, want := l.Accept(src, m), s.accept(src, m)
	if got != want {
		t.Fatalf("Accept(%d, %+v) is %v with %+v", src, m, got, s.state())
	}
	if got {
		return "taken"
	}
	return "left"
}
