package proposer_test

import (
	"fmt"
	"slices"
	"testing"

	"quorum/api"
	"quorum/proposer"
)

// second is a plainer proposer: its state is the plain data, and every list is made anew whenever something changes.
type second struct {
	c    api.Config
	self int
	s    api.ProposerState
}

// left gives the requests of a list that none of the others supersedes.
func left(list, by []api.Request) []api.Request {
	var rest []api.Request
	for _, r := range list {
		gone := false
		for _, b := range by {
			gone = gone || b.Client == r.Client && b.Seq >= r.Seq
		}
		if !gone {
			rest = append(rest, r)
		}
	}
	return rest
}

// joined gives two lists as one, in new memory.
func joined[E any](a, b []E) []E {
	var list []E
	list = append(list, a...)
	return append(list, b...)
}

func okRequest(r api.Request) bool { return r.Client >= 256 && r.Seq >= 1 && len(r.Cmd) <= 700 }

func (s *second) okBallot(b api.Ballot) bool {
	return 1 <= b.Num && b.Num <= s.c.MaxNum && 0 <= b.Node && b.Node <= 2*s.c.F
}

func (s *second) request(r api.Request) bool {
	known := joined(s.s.Queue, s.s.Open)
	if s.s.Phase == 0 || !okRequest(r) || left([]api.Request{r}, known) == nil || len(s.s.Queue) == 32 {
		return false
	}
	s.s.Queue = joined(s.s.Queue, []api.Request{r})
	return true
}

func (s *second) enter(view api.Ballot, waiting []api.Request) api.Step {
	if !s.okBallot(view) || !below(s.s.Bal, view) {
		return api.Step{}
	}
	s.s = api.ProposerState{Bal: s.s.Bal}
	if view.Node != s.self {
		return api.Step{}
	}
	s.s.Phase, s.s.Bal = 1, view
	for _, r := range waiting {
		s.request(r)
	}
	return begun(2*s.c.F+1, view)
}

func (s *second) okVotes(low uint64, votes []api.Vote) bool {
	at := low
	for _, v := range votes {
		if v.Slot < at || v.Slot >= low+s.c.Window || v.Slot >= s.c.MaxSlot || !s.okBallot(v.Bal) || below(s.s.Bal, v.Bal) {
			return false
		}
		if v.Batch.Stamp > 1<<40 || len(v.Batch.Reqs) > 8 {
			return false
		}
		for _, r := range v.Batch.Reqs {
			if !okRequest(r) {
				return false
			}
		}
		at = v.Slot + 1
	}
	return true
}

func (s *second) promise(src api.Addr, m api.Msg) bool {
	if s.s.Phase != 1 || src > api.Addr(2*s.c.F) || m.Kind != api.KPromise || m.Bal != s.s.Bal || m.Low > s.c.MaxSlot || !s.okVotes(m.Low, m.Votes) {
		return false
	}
	for _, q := range s.s.Promises {
		if q.Node == int(src) {
			return false
		}
	}
	s.s.Promises = joined(s.s.Promises, []api.Promised{{Node: int(src), Low: m.Low, Votes: m.Votes}})
	slices.SortFunc(s.s.Promises, func(a, b api.Promised) int { return a.Node - b.Node })
	return true
}

func (s *second) lead(low uint64) api.Step {
	if s.s.Phase != 1 || len(s.s.Promises) <= s.c.F {
		return api.Step{}
	}
	s.s.Phase, s.s.Next = 2, low
	for _, q := range s.s.Promises {
		s.s.Next = max(s.s.Next, q.Low)
	}
	return led(2*s.c.F+1, s.s.Bal, s.s.Next)
}

// old gives the vote for a slot that is to be proposed again, if there is one, and whether there are later ones. It sorts all votes that there are.
func (s *second) old(slot uint64) (best api.Batch, found, later bool) {
	type voter struct {
		api.Vote
		node int
	}
	var all []voter
	for _, q := range s.s.Promises {
		for _, v := range q.Votes {
			later = later || v.Slot > slot
			if v.Slot == slot {
				all = append(all, voter{v, q.Node})
			}
		}
	}
	slices.SortFunc(all, func(a, b voter) int {
		switch {
		case below(b.Bal, a.Bal):
			return -1
		case below(a.Bal, b.Bal):
			return 1
		}
		return a.node - b.node
	})
	if len(all) > 0 {
		return all[0].Batch, true, later
	}
	return api.Batch{}, false, later
}

// nominate tells too which of the five reasons it was, 0 if it was none.
func (s *second) nominate(now, low uint64) (api.Step, int) {
	if s.s.Phase != 2 {
		return api.Step{}, 0
	}
	now = min(now, 1<<40)
	s.s.Next = max(s.s.Next, low)
	var flight []api.Vote
	for _, v := range s.s.Flight {
		if v.Slot >= low {
			flight = append(flight, v)
		}
	}
	s.s.Flight = flight
	if s.s.Next >= s.c.MaxSlot || s.s.Next-low >= s.c.Window {
		return api.Step{}, 0
	}
	batch, found, later := s.old(s.s.Next)
	reason := 1
	if found {
		s.s.Queue = left(s.s.Queue, batch.Reqs)
		s.s.Open = joined(s.s.Open, batch.Reqs)
	} else if reason = s.why(now, later); reason == 4 || reason == 6 {
		return api.Step{}, reason
	} else {
		batch = s.pick(now)
	}
	v := vote(s.s.Next, s.s.Bal, batch)
	s.s.Flight = joined(s.s.Flight, []api.Vote{v})
	s.s.Next++
	return proposed(2*s.c.F+1, s.s.Bal, v.Slot, batch), reason
}

// why gives the number of the reason behind the first; 6 is the fifth where it is not yet time.
func (s *second) why(now uint64, later bool) int {
	switch {
	case later:
		return 2
	case len(s.s.Queue) >= s.c.MaxBatch:
		return 3
	case len(s.s.Queue) == 0:
		s.s.Timed, s.s.Until = false, 0
		return 4
	}
	if !s.s.Timed {
		s.s.Timed, s.s.Until = true, min(now+s.c.Delay, 1<<40)
	}
	if now >= s.s.Until {
		return 5
	}
	return 6
}

func (s *second) pick(now uint64) api.Batch {
	n := min(len(s.s.Queue), s.c.MaxBatch)
	b := batch(now, s.s.Queue[:n]...)
	s.s.Queue, s.s.Open = joined(nil, s.s.Queue[n:]), joined(s.s.Open, b.Reqs)
	s.s.Timed, s.s.Until = false, 0
	return b
}

func (s *second) resend() api.Step {
	var step api.Step
	if s.s.Phase == 1 {
		for _, send := range toAll(2*s.c.F+1, api.Msg{Kind: api.KPrepare, Bal: s.s.Bal}) {
			if !slices.ContainsFunc(s.s.Promises, func(q api.Promised) bool { return api.Addr(q.Node) == send.To }) {
				step.Sends = append(step.Sends, send)
			}
		}
	}
	for _, v := range s.s.Flight {
		step.Sends = append(step.Sends, proposed(2*s.c.F+1, s.s.Bal, v.Slot, v.Batch).Sends...)
	}
	return step
}

func (s *second) executed(b api.Batch) {
	s.s.Queue, s.s.Open = left(s.s.Queue, b.Reqs), left(s.s.Open, b.Reqs)
}

// request gives one of a few clients, seldom one that may not be.
func (d *dice) request() api.Request {
	if d.below(25) == 0 {
		return one(d, req(255, 1), req(256, 0), api.Request{}, api.Request{Client: 256, Seq: 1, Cmd: make([]byte, 701)})
	}
	r := req(256+uint64(d.below(9)), 1+uint64(d.below(12)))
	if d.below(2) == 0 {
		r.Cmd = []byte{byte(d.below(3))}
	}
	return r
}

func (d *dice) requests(most int) []api.Request {
	var list []api.Request
	for range d.below(most + 1) {
		list = append(list, d.request())
	}
	return list
}

// batch gives one of few requests, seldom one that may not be.
func (d *dice) batch() api.Batch {
	if d.below(60) == 0 {
		return one(d, api.Batch{Stamp: 1<<40 + 1}, batch(1, many(9)...))
	}
	return batch(uint64(d.below(9)), d.requests(2)...)
}

// ballot gives one up to a ballot, seldom one that is not.
func (d *dice) ballot(c api.Config, most api.Ballot) api.Ballot {
	if d.below(60) == 0 {
		return one(d, bal(0, 0), bal(0, 1), bal(c.MaxNum+1, 0), bal(1, 2*c.F+1), bal(most.Num, -1), bal(most.Num, most.Node+1))
	}
	if most.Num < 2 || d.below(4) == 0 {
		return most
	}
	return bal(1+uint64(d.below(int(most.Num-1))), d.below(2*c.F+1))
}

// promise gives one of an acceptor that is somewhere near slot, seldom one of none.
func (d *dice) promise(s *second, near uint64) (api.Addr, api.Msg) {
	m := promise(s.s.Bal, near+uint64(d.below(3)))
	for slot := m.Low; slot < m.Low+s.c.Window; slot++ {
		if d.below(3) == 0 {
			m.Votes = append(m.Votes, vote(slot, d.ballot(s.c, s.s.Bal), d.batch()))
		}
	}
	if n := len(m.Votes); n > 0 && d.below(15) == 0 {
		m.Votes[d.below(n)].Slot = one(d, m.Low-1, m.Low, m.Low+s.c.Window, s.c.MaxSlot)
	}
	if d.below(30) == 0 {
		m.Kind = api.Kind(d.below(12))
	}
	if d.below(30) == 0 {
		m.Bal = d.ballot(s.c, s.s.Bal)
	}
	if d.below(40) == 0 {
		m.Low, m.Votes = one(d, s.c.MaxSlot, s.c.MaxSlot+1, 1<<64-1), nil
	}
	src := api.Addr(d.below(2*s.c.F + 1))
	if d.below(30) == 0 {
		src = one(d, api.Addr(2*s.c.F+1), 256, 1<<64-1)
	}
	return src, m
}

// game is a proposer, its second, and the world around them.
type game struct {
	p        *proposer.Proposer
	s        *second
	d        *dice
	now, low uint64
	log      []api.Record
}

// view gives a view near the last ballot, mostly its own.
func (g *game) view() api.Ballot {
	if g.d.below(12) == 0 {
		return g.d.ballot(g.s.c, bal(g.s.s.Bal.Num+1, 2*g.s.c.F))
	}
	return bal(g.s.s.Bal.Num+uint64(g.d.below(2)), one(g.d, g.s.self, g.s.self, g.d.below(2*g.s.c.F+1)))
}

// lowNear gives low mostly as it is, sometimes risen, seldom any.
func (g *game) lowNear() uint64 {
	switch {
	case g.d.below(40) == 0:
		return one(g.d, 0, g.s.c.MaxSlot-1, g.s.c.MaxSlot, 1<<64-1)
	case g.d.below(4) == 0:
		g.low = min(g.low+uint64(g.d.below(3)), g.s.c.MaxSlot)
	}
	return g.low
}

// clock gives the time, which runs on, seldom any.
func (g *game) clock() uint64 {
	g.now += uint64(g.d.below(9))
	if g.d.below(40) == 0 {
		return one[uint64](g.d, 0, 1<<40-1, 1<<40, 1<<40+1, 1<<64-1)
	}
	return g.now
}

// turn does one call on both and tells how it went.
func (g *game) turn() (what string, got, want any) {
	p, s, d := g.p, g.s, g.d
	call := d.below(16)
	if call == 0 && s.s.Phase == api.Leading && d.below(8) > 0 {
		call = 9 // a leader is mostly left to its work
	}
	switch call {
	case 0:
		view, waiting := g.view(), d.requests(one(d, 3, 6, 50))
		step := p.Enter(view, waiting)
		g.log = append(g.log, step.Recs...)
		return fmt.Sprint("enter ", s.s.Phase, len(step.Sends) > 0), step, s.enter(view, waiting)
	case 1, 2, 3, 4:
		src, m := d.promise(s, g.low)
		yes := s.promise(src, m)
		return fmt.Sprint("promise ", yes), p.Promise(src, m), yes
	case 5:
		low := g.lowNear()
		step := s.lead(low)
		return fmt.Sprint("lead ", len(step.Sends) > 0), p.Lead(low), step
	case 6, 7, 8:
		r := d.request()
		yes := s.request(r)
		return fmt.Sprint("request ", yes), p.Request(r), yes
	case 9, 10, 11, 12, 13:
		now, low := g.clock(), g.lowNear()
		step, reason := s.nominate(now, low)
		return fmt.Sprint("nominate ", reason), p.Nominate(now, low), step
	case 14:
		return fmt.Sprint("resend ", s.s.Phase), p.Resend(), s.resend()
	}
	b := batch(uint64(d.below(5)), d.requests(3)...)
	p.Executed(b)
	s.executed(b)
	return "executed", nil, nil
}

// crash loses the proposer; one out of its records goes on.
func (g *game) crash(t *testing.T) {
	t.Helper()
	p, err := proposer.Recover(g.s.c, g.s.self, g.log)
	if err != nil {
		t.Fatal(err)
	}
	g.p, g.s.s = p, api.ProposerState{Bal: g.s.s.Bal}
}

func shapes() []api.Config {
	slow := small()
	slow.F, slow.MaxBatch, slow.Delay, slow.Window, slow.MaxSlot = 2, 8, 20, 8, 1000
	tight := narrow()
	tight.MaxNum, tight.MaxSlot = 1000, 1<<40
	return []api.Config{small(), slow, tight}
}

func TestSecond(t *testing.T) {
	seen := map[string]int{}
	for at, c := range shapes() {
		for run := range 120 {
			d := &dice{uint64(1000*at + run)}
			self := d.below(2*c.F + 1)
			g := &game{p: madeOf(t, c, self), s: &second{c: c, self: self}, d: d}
			for range 400 {
				what, got, want := g.turn()
				seen[what]++
				if !same(got, want) {
					t.Fatalf("shape %d, run %d, %s: %+v, want %+v", at, run, what, got, want)
				}
				if got := g.p.State(); !same(got, g.s.s) {
					t.Fatalf("shape %d, run %d, %s: it is %+v, want %+v", at, run, what, got, g.s.s)
				}
				if d.below(150) == 0 {
					g.crash(t)
				}
			}
		}
	}
	for _, what := range []string{"enter 0 true", "enter 0 false", "enter 1 true", "enter 1 false", "enter 2 true", "enter 2 false", "promise true", "promise false", "lead true", "lead false", "request true", "request false", "nominate 0", "nominate 1", "nominate 2", "nominate 3", "nominate 4", "nominate 5", "nominate 6", "resend 0", "resend 1", "resend 2", "executed"} {
		if seen[what] < 50 {
			t.Errorf("%s was there %d times only", what, seen[what])
		}
	}
}
