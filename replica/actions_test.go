package replica_test

import (
	"testing"

	"quorum/api"
	"quorum/replica"
)

// idle takes an action that has nothing to do.
func idle(t testing.TB, what string, r *replica.Replica, action int, now uint64) {
	t.Helper()
	turn(t, r, action, now)
	changes(t, what, r, api.ReplicaIn{Now: now}, api.ReplicaOut{}, func(*api.ReplicaState) {})
}

// The ten actions take turns, whatever they find to do.
func TestP15_3Turns(t *testing.T) {
	for self := range 3 {
		r := begun(t, self)
		for i := range 100 {
			if r.Action() != i%10 || r.State().Action != i%10 {
				t.Fatalf("action %d is next behind %d", r.Action(), i)
			}
			r.Act(heard(uint64(i), 2, prepare(bal(2, 2))))
		}
	}
}

// The clock goes on at every action, never back, and stays at MaxTick.
func TestP15_3Clock(t *testing.T) {
	for action := range api.Actions {
		r := begunOf(t, small(), 1, 100)
		turn(t, r, action, 0)
		for _, step := range []struct{ in, is uint64 }{{0, 100}, {99, 100}, {100, 100}, {101, 101}, {50, 101}, {1 << 30, 1 << 30}, {api.MaxTick - 1, api.MaxTick - 1}, {api.MaxTick + 1, api.MaxTick}, {5, api.MaxTick}, {most, api.MaxTick}, {api.MaxTick, api.MaxTick}} {
			act(r, step.in)
			if r.State().Now != step.is {
				t.Errorf("action %d, told %d: the clock is %d, want %d", action, step.in, r.State().Now, step.is)
			}
		}
	}
}

// What is done in an action is done at the clock, not at what the action was told.
func TestP15_3ClockCounts(t *testing.T) {
	r := begunOf(t, small(), 1, 100)
	hear(t, r, 3, 2, beat(bal(4, 2), 8, false))
	if s := r.State(); s.Election.EpochEnd != 120 || s.Fetcher.Last != 100 {
		t.Errorf("KBeat: %+v", s)
	}
	r = leading(t, small())
	round(t, r, 50, 0, api.Msg{})
	hear(t, r, 9, 300, request(1))
	if out := does(t, r, api.ActNominate, 9); len(out.Sends) != 3 || out.Sends[0].Msg.Batch.Stamp != 50 {
		t.Errorf("Nominate: %+v", out)
	}
	r = begunOf(t, small(), 1, api.MaxTick-5)
	hear(t, r, most, 2, beat(bal(4, 2), 8, false))
	if s := r.State(); s.Election.EpochEnd != api.MaxTick || s.Fetcher.Last != api.MaxTick {
		t.Errorf("KBeat at the end: %+v", s)
	}
}

// A replica that leads the view begins its ballot, with what waits.
func TestP15_5Enter(t *testing.T) {
	for f := 1; f <= api.MaxF; f++ {
		c := with(func(c *api.Config) { c.F = f })
		n := 2*f + 1
		for self := range n {
			r := begunOf(t, c, self, 0)
			first, second := req(300, 1, 5), req(301, 4, 6, 7)
			hear(t, r, 0, 300, request(1, 5))
			if self > 0 {
				idle(t, "another leads", r, api.ActEnter, 0)
			}
			does(t, r, api.ActTimeout, 10)
			hear(t, r, 10, 301, request(4, 6, 7))
			hear(t, r, 10, api.Addr(n-1), beat(bal(3, self), 0, false))
			if s := r.State().Election; len(s.Prev) != 2 {
				t.Fatalf("they do not wait: %+v", s)
			}
			turn(t, r, api.ActEnter, 10)
			changes(t, "it leads", r, api.ReplicaIn{Now: 10}, api.ReplicaOut{Recs: []api.Record{{Kind: api.RStart, Bal: bal(3, self)}}, Sends: toAll(n, prepare(bal(3, self)))}, func(s *api.ReplicaState) {
				s.Proposer = api.ProposerState{Phase: api.Asking, Bal: bal(3, self), Queue: []api.Request{first, second}}
			})
			idle(t, "it has begun", r, api.ActEnter, 10)
		}
	}
}

// When another leads it is no leader any more; it begins no ballot twice, in no life.
func TestP15_5EnterAnothers(t *testing.T) {
	r := leading(t, small())
	hear(t, r, 0, 300, request(1))
	hear(t, r, 0, 2, beat(bal(1, 2), 0, false))
	turn(t, r, api.ActEnter, 0)
	changes(t, "another leads", r, api.ReplicaIn{}, api.ReplicaOut{}, func(s *api.ReplicaState) {
		s.Proposer = api.ProposerState{Bal: bal(1, 0)}
	})
	r = recoveredOf(t, small(), 0, []api.Record{{Kind: api.RStart, Bal: bal(1, 0)}}, 0)
	idle(t, "begun in an earlier life", r, api.ActEnter, 0)
	idle(t, "and not led", r, api.ActLead, 0)
}

// With promises of a quorum it goes over to phase 2, from the greatest low on: its own acceptor's too.
func TestP15_6Lead(t *testing.T) {
	for f := 1; f <= api.MaxF; f++ {
		c := with(func(c *api.Config) { c.F = f })
		for _, low := range []uint64{0, 2, 6} {
			r := begunOf(t, c, 0, 0)
			does(t, r, api.ActEnter, 0)
			for n := range api.Addr(f + 1) {
				hear(t, r, 0, n, beat(bal(1, 0), low, false))
			}
			does(t, r, api.ActTruncate, 0)
			if got := r.State().Acceptor.Low; got != low {
				t.Fatalf("low is %d, want %d", got, low)
			}
			for n := range api.Addr(f) {
				hear(t, r, 0, n, promise(bal(1, 0), uint64(n)))
				idle(t, "too few promises", r, api.ActLead, 0)
			}
			hear(t, r, 0, api.Addr(2*f), promise(bal(1, 0), 4))
			turn(t, r, api.ActLead, 0)
			next := max(low, 4)
			changes(t, "it leads", r, api.ReplicaIn{}, api.ReplicaOut{Sends: toAll(2*f+1, lead(bal(1, 0), next))}, func(s *api.ReplicaState) {
				s.Proposer.Phase, s.Proposer.Next = api.Leading, next
			})
			idle(t, "it leads already", r, api.ActLead, 0)
		}
	}
}

// A leader proposes at its clock, no further than a window above its acceptor's low.
func TestP15_7Nominate(t *testing.T) {
	r := leading(t, small())
	idle(t, "nothing waits", r, api.ActNominate, 0)
	for i := range uint64(4) {
		hear(t, r, 3+i, 300, request(1+i, byte(i)))
		x := batch(3+i, req(300, 1+i, byte(i)))
		turn(t, r, api.ActNominate, 3+i)
		changes(t, "it proposes", r, api.ReplicaIn{Now: 3 + i}, api.ReplicaOut{Sends: toAll(3, propose(bal(1, 0), i, x))}, func(s *api.ReplicaState) {
			s.Proposer.Next++
			s.Proposer.Queue = nil
			s.Proposer.Open = append(s.Proposer.Open, x.Reqs...)
			s.Proposer.Flight = append(s.Proposer.Flight, api.Vote{Slot: i, Bal: bal(1, 0), Batch: x})
		})
	}
	hear(t, r, 8, 300, request(5))
	idle(t, "past the window", r, api.ActNominate, 8)
	for n := range api.Addr(2) {
		hear(t, r, 8, n, beat(bal(1, 0), 2, false))
	}
	idle(t, "low has not gone up yet", r, api.ActNominate, 8)
	does(t, r, api.ActTruncate, 8)
	if out := does(t, r, api.ActNominate, 9); !same(out, api.ReplicaOut{Sends: toAll(3, propose(bal(1, 0), 4, batch(9, req(300, 5))))}) {
		t.Errorf("low is 2: %+v", out)
	}
	if flight := r.State().Proposer.Flight; len(flight) != 3 || flight[0].Slot != 2 {
		t.Errorf("low is 2, in flight are %+v", flight)
	}
}

// A batch that is not full waits for Delay ticks of the clock.
func TestP15_7Delay(t *testing.T) {
	r := leading(t, with(func(c *api.Config) { c.Delay = 7 }))
	hear(t, r, 3, 300, request(1))
	turn(t, r, api.ActNominate, 3)
	changes(t, "it waits", r, api.ReplicaIn{Now: 3}, api.ReplicaOut{}, func(s *api.ReplicaState) {
		s.Proposer.Timed, s.Proposer.Until = true, 10
	})
	idle(t, "it waits", r, api.ActNominate, 9)
	if out := does(t, r, api.ActNominate, 10); !same(out.Sends, toAll(3, propose(bal(1, 0), 0, batch(10, req(300, 1))))) {
		t.Errorf("it has waited: %+v", out)
	}
}

// The acceptor's low goes up to what the marks of a quorum have reached.
func TestP15_8Truncate(t *testing.T) {
	r := begun(t, 1)
	hear(t, r, 0, 0, propose(bal(1, 0), 1, batch(1)))
	hear(t, r, 0, 0, propose(bal(1, 0), 3, batch(2)))
	hear(t, r, 0, 2, beat(bal(1, 0), 4, false))
	idle(t, "one mark", r, api.ActTruncate, 0)
	hear(t, r, 0, 1, beat(bal(1, 0), 2, false))
	turn(t, r, api.ActTruncate, 0)
	changes(t, "two marks", r, api.ReplicaIn{}, api.ReplicaOut{Recs: []api.Record{{Kind: api.RLow, Slot: 2}}}, func(s *api.ReplicaState) {
		s.Acceptor.Low = 2
		s.Acceptor.Votes = s.Acceptor.Votes[1:]
	})
	idle(t, "once more", r, api.ActTruncate, 0)
}

// An epoch ends at the clock; requests of an earlier one make it suspect, and nothing is answered.
func TestP15_10Timeout(t *testing.T) {
	r := begun(t, 1)
	hear(t, r, 0, 300, request(1))
	idle(t, "too early", r, api.ActTimeout, 9)
	turn(t, r, api.ActTimeout, 9)
	changes(t, "an epoch's end", r, api.ReplicaIn{Now: 10}, api.ReplicaOut{}, func(s *api.ReplicaState) {
		s.Election.EpochEnd = 20
		s.Election.Prev, s.Election.This = s.Election.This, nil
	})
	idle(t, "too early", r, api.ActTimeout, 19)
	turn(t, r, api.ActTimeout, 19)
	changes(t, "it suspects", r, api.ReplicaIn{Now: 23}, api.ReplicaOut{}, func(s *api.ReplicaState) {
		s.Election.EpochEnd = 33
		s.Election.Suspects = 2
	})
}

// With a quorum that suspects, the next view begins.
func TestP15_10Change(t *testing.T) {
	r := begun(t, 1)
	idle(t, "nobody suspects", r, api.ActChange, 3)
	hear(t, r, 3, 0, beat(bal(1, 0), 0, true))
	idle(t, "one suspects", r, api.ActChange, 3)
	hear(t, r, 3, 2, beat(bal(1, 0), 0, true))
	turn(t, r, api.ActChange, 3)
	changes(t, "two suspect", r, api.ReplicaIn{Now: 5}, api.ReplicaOut{}, func(s *api.ReplicaState) {
		higher(s, bal(1, 1), 5)
	})
	// it is this replica's view, and it begins it in its next turn
	if out := does(t, r, api.ActEnter, 5); !same(out.Recs, []api.Record{{Kind: api.RStart, Bal: bal(1, 1)}}) {
		t.Errorf("it leads: %+v", out)
	}
	idle(t, "nobody suspects the new one", r, api.ActChange, 5)
}

// beats takes action 8 and wants a heartbeat, and BeatAt to be then.
func beats(t *testing.T, what string, r *replica.Replica, now uint64, m api.Msg, again []api.Send, next uint64) {
	t.Helper()
	turn(t, r, api.ActBeat, now)
	changes(t, what, r, api.ReplicaIn{Now: now}, api.ReplicaOut{Sends: append(toAll(r.Nodes(), m), again...)}, func(s *api.ReplicaState) {
		s.BeatAt = next
	})
}

// It beats when it begins, then every Beat ticks, counted from the last one.
func TestP15_11Times(t *testing.T) {
	for _, every := range []uint64{1, 5, 1000} {
		for f := 1; f <= api.MaxF; f++ {
			r := begunOf(t, with(func(c *api.Config) { c.F, c.Beat = f, every }), 1, 30)
			m := beat(bal(1, 0), 0, false)
			beats(t, "at first", r, 30, m, nil, 30+every)
			for _, late := range []uint64{0, 0, 7} {
				due := r.State().BeatAt
				idle(t, "too early", r, api.ActBeat, due-1)
				beats(t, "in time", r, due+late, m, nil, due+late+every)
			}
		}
	}
}

// At MaxTick nothing is due any more.
func TestP15_11End(t *testing.T) {
	m := beat(bal(1, 0), 0, false)
	for _, now := range []uint64{api.MaxTick - 6, api.MaxTick - 5, api.MaxTick - 4, api.MaxTick - 1} {
		r := begunOf(t, small(), 1, now)
		beats(t, "near the end", r, now, m, nil, min(now+5, api.MaxTick))
		idle(t, "at the end", r, api.ActBeat, api.MaxTick)
		idle(t, "past the end", r, api.ActBeat, api.MaxTick)
	}
	idle(t, "begun at the end", begunOf(t, small(), 1, api.MaxTick), api.ActBeat, api.MaxTick)
}

// It tells its view, its mark, and whether it itself suspects.
func TestP15_11Tells(t *testing.T) {
	r := begunOf(t, with(func(c *api.Config) { c.F = 2 }), 1, 0)
	for range 3 {
		ran(t, r, 0, batch(1))
	}
	hear(t, r, 0, 2, beat(bal(2, 2), 0, true))
	beats(t, "another suspects", r, 5, beat(bal(2, 2), 2, false), nil, 10)
	hear(t, r, 5, 300, request(1))
	does(t, r, api.ActTimeout, 40)
	does(t, r, api.ActTimeout, 80)
	if r.State().Election.Suspects != 6 {
		t.Fatal("it does not suspect")
	}
	beats(t, "it suspects", r, 90, beat(bal(2, 2), 2, true), nil, 95)
}

// Behind the heartbeat comes what may be lost.
func TestP15_11Resend(t *testing.T) {
	r := begun(t, 0)
	does(t, r, api.ActEnter, 0)
	hear(t, r, 0, 1, promise(bal(1, 0), 0))
	asks := []api.Send{{To: 0, Msg: prepare(bal(1, 0))}, {To: 2, Msg: prepare(bal(1, 0))}}
	beats(t, "asking", r, 5, beat(bal(1, 0), 0, false), asks, 10)
	hear(t, r, 5, 2, promise(bal(1, 0), 0))
	does(t, r, api.ActLead, 5)
	var flight []api.Send
	for slot := range uint64(2) {
		hear(t, r, 6, 300, request(1+slot))
		flight = append(flight, does(t, r, api.ActNominate, 6).Sends...)
	}
	if len(flight) != 6 {
		t.Fatalf("proposed: %+v", flight)
	}
	beats(t, "leading", r, 10, beat(bal(1, 0), 0, false), flight, 15)
	idle(t, "too early", r, api.ActBeat, 14)
}
