package election_test

import (
	"testing"

	"quorum/api"
	"quorum/election"
)

// second is a plainer election: its state is the plain data, those who suspect are bools, and every list is made anew whenever something changes.
type second struct {
	c        api.Config
	self     int
	view     api.Ballot
	suspects [7]bool
	length   uint64
	end      uint64
	prev     []api.Request
	this     []api.Request
}

func newSecond(c api.Config, self int, now uint64) *second {
	return &second{c: c, self: self, view: bal(1, 0), length: c.Epoch, end: tick(now + c.Epoch)}
}

func tick(n uint64) uint64 {
	if n > 1<<40 {
		return 1 << 40
	}
	return n
}

func (s *second) request(r api.Request) bool {
	for _, w := range append(list(s.prev...), s.this...) {
		if w.Client == r.Client && w.Seq >= r.Seq {
			return false
		}
	}
	if r.Client < 256 || r.Seq < 1 || len(r.Cmd) > 700 || len(s.this) == 32 {
		return false
	}
	s.this = append(list(s.this...), r)
	return true
}

func (s *second) executed(b api.Batch) {
	for _, done := range b.Reqs {
		for _, q := range []*[]api.Request{&s.prev, &s.this} {
			var left []api.Request
			for _, r := range *q {
				if r.Client != done.Client || r.Seq > done.Seq {
					left = append(left, r)
				}
			}
			*q = left
		}
	}
}

func (s *second) join() {
	for _, r := range s.this {
		if len(s.prev) < 32 {
			s.prev = append(list(s.prev...), r)
		}
	}
	s.this = nil
}

func (s *second) enter(v api.Ballot, now uint64) {
	s.view, s.suspects = v, [7]bool{}
	s.length *= 2
	if s.length > s.c.EpochMax {
		s.length = s.c.EpochMax
	}
	s.end = tick(tick(now) + s.length)
	s.join()
}

func (s *second) beat(src api.Addr, m api.Msg, now uint64) bool {
	if m.Kind != api.KBeat || src > api.Addr(2*s.c.F) || m.Bal.Num < 1 || m.Bal.Num > s.c.MaxNum || m.Bal.Node < 0 || m.Bal.Node > 2*s.c.F {
		return false
	}
	if m.Bal == s.view {
		s.suspects[src] = s.suspects[src] || m.Suspect
		return false
	}
	if below(m.Bal, s.view) {
		return false
	}
	s.enter(m.Bal, now)
	s.suspects[src] = m.Suspect
	return true
}

// timeout tells too which it was: 0 no end, 1 an end with nothing in prev, 2 one with something.
func (s *second) timeout(now uint64) int {
	now = tick(now)
	if now < s.end {
		return 0
	}
	if len(s.prev) == 0 {
		s.length = s.c.Epoch
		s.end = tick(now + s.length)
		s.prev, s.this = s.this, nil
		return 1
	}
	s.suspects[s.self] = true
	s.end = tick(now + s.length)
	s.join()
	return 2
}

func (s *second) quorum(now uint64) bool {
	n := 0
	for _, yes := range s.suspects {
		if yes {
			n++
		}
	}
	next := bal(s.view.Num, s.view.Node+1)
	if next.Node > 2*s.c.F {
		next = bal(s.view.Num+1, 0)
	}
	if n < s.c.F+1 || next.Num > s.c.MaxNum {
		return false
	}
	s.enter(next, now)
	return true
}

func (s *second) state() api.ElectionState {
	st := api.ElectionState{View: s.view, Length: s.length, EpochEnd: s.end, Prev: list(s.prev...), This: list(s.this...)}
	for n, yes := range s.suspects {
		if yes {
			st.Suspects += 1 << n
		}
	}
	return st
}

// shapes are configurations of all sizes, with epochs of all lengths.
func shapes() []api.Config {
	few, short := withF(2), withEpochs(3, 1, 1)
	few.MaxNum = 3
	return []api.Config{small(), withF(1), few, short, narrow(), wide(), withEpochs(1, 3, 40), withEpochs(3, 20, 1000)}
}

// request is mostly one of a few clients, near to the numbers that have been.
func (d *dice) request(seq uint64) api.Request {
	r := req(256+uint64(d.below(one(d, 4, 60))), seq/8+uint64(d.below(6)), byte(d.below(3)))
	switch d.below(30) {
	case 0:
		r.Client = one[uint64](d, 0, 255, 256, 1<<64-1)
	case 1:
		r.Seq = one[uint64](d, 0, 1, 1<<64-1)
	case 2:
		r = req(r.Client, r.Seq, make([]byte, one(d, 0, 1, 699, 700, 701))...)
	}
	return r
}

// heartbeat is mostly one of a view near to the one that is on.
func (d *dice) heartbeat(c api.Config, view api.Ballot) (api.Addr, api.Msg) {
	m := beat(view, d.below(2) == 0)
	switch d.below(12) {
	case 0:
		m.Bal = bal(view.Num+uint64(d.below(2)), d.below(2*c.F+1))
	case 1:
		m.Bal = bal(max(view.Num, 1)-uint64(d.below(2)), d.below(2*c.F+2)-d.below(2))
	case 2:
		m.Bal = one(d, bal(0, 0), bal(0, 1), bal(1, 0), bal(c.MaxNum+1, 0), bal(view.Num, -1), bal(view.Num, 2*c.F+1))
	case 3:
		m.Kind = api.Kind(d.below(12))
	}
	return one(d, api.Addr(d.below(2*c.F+1)), api.Addr(d.below(2*c.F+1)), api.Addr(d.below(2*c.F+3)), 256), m
}

// tallyOf counts how often each thing happened in the runs.
type tallyOf map[string]int

// play does one thing to both, and wants the same answer.
func play(t *testing.T, d *dice, e *election.Election, s *second, now uint64, seq uint64, happened tallyOf) {
	t.Helper()
	said := func(what string, got, want bool) {
		t.Helper()
		if got != want {
			t.Fatalf("%s: %v, want %v", what, got, want)
		}
		if want {
			happened[what]++
		} else {
			happened["no "+what]++
		}
	}
	switch d.below(12) {
	case 0:
		b := api.Batch{Stamp: d.next()}
		for range d.below(one(d, 3, 12)) {
			b.Reqs = append(b.Reqs, d.request(seq))
		}
		if d.below(3) == 0 {
			b.Reqs = append(b.Reqs, s.prev...)
		}
		was := len(s.prev) + len(s.this)
		e.Executed(b)
		s.executed(b)
		if len(s.prev)+len(s.this) < was {
			happened["executed"]++
		}
	case 1, 2, 3:
		src, m := d.heartbeat(s.c, s.view)
		said("beat", e.Beat(src, m, now), s.beat(src, m, now))
	case 4, 5:
		kind := s.timeout(now)
		said("timeout", e.Timeout(now), kind > 0)
		happened[[]string{"no end", "an idle end", "a suspicion"}[kind]]++
	case 6:
		said("quorum", e.Quorum(now), s.quorum(now))
	default:
		r := d.request(seq)
		said("request", e.Request(r), s.request(r))
	}
	if len(s.this) == 32 {
		happened["this is full"]++
	}
	if len(s.prev) == 32 {
		happened["prev is full"]++
	}
}

// The election does what the second one does, in long runs of anything.
func TestSecond(t *testing.T) {
	happened := tallyOf{}
	for shape, c := range shapes() {
		for run := range 25 {
			d := &dice{uint64(1000*shape + run)}
			self := d.below(2*c.F + 1)
			now := one(d, 0, uint64(d.below(1000)), 1<<40-uint64(d.below(int(4*c.EpochMax)))-1)
			e, s := madeOf(t, c, self, now), newSecond(c, self, now)
			pace := one(d, 1, int(c.Epoch)/8+1, int(c.Epoch)*2)
			busy := d.below(3) > 0 // else hardly anything runs, and all fills up
			for n := range uint64(400) {
				at := now
				switch d.below(40) {
				case 0:
					at = one(d, 0, now/2, 1<<40, 1<<40+1, 1<<64-1)
				case 1:
					at = s.end - uint64(d.below(2))
				}
				seq := n
				if !busy {
					seq = n * 8
				}
				play(t, d, e, s, at, seq, happened)
				isState(t, "the two", e, self, s.state())
				if t.Failed() {
					t.Fatalf("configuration %d, run %d, step %d", shape, run, n)
				}
				now += uint64(d.below(pace + 1))
			}
		}
	}
	for _, what := range []string{"executed", "beat", "no beat", "timeout", "no end", "an idle end", "a suspicion", "quorum", "no quorum", "request", "no request", "this is full", "prev is full"} {
		if happened[what] < 200 {
			t.Errorf("%s: only %d times", what, happened[what])
		}
	}
}
