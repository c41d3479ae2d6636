package election_test

import (
	"testing"

	"quorum/api"
	"quorum/election"
)

// P13.10, the first part: the view never falls, and goes up only to the next one or to one that a heartbeat told.
func TestP13_10Views(t *testing.T) {
	next, told := 0, 0
	for at, c := range shapes() {
		for run := range 40 {
			d := &dice{uint64(500*at + run)}
			e := madeOf(t, c, d.below(2*c.F+1), 0)
			for now := range uint64(400) {
				was := e.View()
				var up, heard bool
				src, m := d.heartbeat(c, was)
				switch d.below(4) {
				case 0:
					heard, up = true, e.Beat(src, m, now)
				case 1:
					e.Timeout(now)
				case 2:
					up = e.Quorum(now)
				default:
					e.Request(d.request(now))
				}
				view := e.View()
				switch {
				case view == was && up, view != was && !up:
					t.Fatalf("%v to %v: told %v", was, view, up)
				case below(view, was):
					t.Fatalf("the view falls from %v to %v", was, view)
				case view == was:
				case heard:
					told++
					if view != m.Bal {
						t.Fatalf("%v was told, %v is taken", m.Bal, view)
					}
				default:
					next++
					if want := rank(c, was) + 1; rank(c, view) != want {
						t.Fatalf("%v behind %v", view, was)
					}
				}
			}
		}
	}
	if next < 200 || told < 500 {
		t.Errorf("%d times the next, %d times one that was told", next, told)
	}
}

// rank counts the views from {1 0} on.
func rank(c api.Config, b api.Ballot) uint64 {
	return (b.Num-1)*uint64(2*c.F+1) + uint64(b.Node)
}

// P13.10, the first part: a quorum has really suspected whenever the next view is taken without having been told.
func TestP13_10Quorum(t *testing.T) {
	turns := 0
	for at, c := range shapes() {
		for run := range 40 {
			d := &dice{uint64(900*at + run)}
			self := d.below(2*c.F + 1)
			e := madeOf(t, c, self, 0)
			said := map[api.Ballot]map[int]int{} // by view: who has told that it suspects it
			note := func(v api.Ballot, n int) {
				if said[v] == nil {
					said[v] = map[int]int{}
				}
				said[v][n]++
			}
			for now := range uint64(500) {
				was := e.View()
				switch d.below(4) {
				case 0:
					src, m := d.heartbeat(c, was)
					if m.Kind == api.KBeat && m.Suspect {
						note(m.Bal, int(src))
					}
					e.Beat(src, m, now)
				case 1:
					waited := len(e.State().Prev) > 0
					if e.Timeout(now) && waited {
						note(was, self)
					}
				case 2:
					if e.Quorum(now) {
						turns++
						n := 0
						for k := range 2*c.F + 1 {
							if said[was][k] > 0 {
								n++
							}
						}
						if n < c.F+1 {
							t.Fatalf("%v ends, and only %d have suspected it", was, n)
						}
					}
				default:
					e.Request(d.request(now))
				}
			}
		}
	}
	if turns < 200 {
		t.Errorf("only %d views ended", turns)
	}
}

// due is a request and the tick at which it runs.
type due struct {
	r  api.Request
	at uint64
}

// P13.10, the second part: requests that all run within an epoch make nobody suspect, whatever views are heard of and however others suspect.
func TestP13_10NoSuspicion(t *testing.T) {
	ends, views := 0, 0
	for at, c := range shapes() {
		if c.MaxNum < 50 {
			c.MaxNum = 50
		}
		for run := range 30 {
			d := &dice{uint64(300*at + run)}
			e := madeOf(t, c, 0, 0)
			var open []due
			last := c.Epoch*20 + 200
			seq := uint64(0)
			for now := uint64(0); now < last; now += 1 + uint64(d.below(int(c.Epoch)/10+1)) {
				var left []due
				for _, x := range open {
					if x.at <= now {
						e.Executed(ran(x.r))
					} else {
						left = append(left, x)
					}
				}
				open = left
				for range d.below(3) {
					seq++
					r := req(300+seq%20, seq)
					if e.Request(r) {
						open = append(open, due{r, now + uint64(d.below(int(c.Epoch)+1))})
					}
				}
				if d.below(15) == 0 {
					view := e.View()
					if e.Beat(one[api.Addr](d, 1, 2), beat(bal(view.Num+uint64(d.below(2)), d.below(3)), d.below(2) == 0), now) {
						views++
					}
				}
				// What runs at this very tick runs ahead of the look at the clock.
				for _, x := range open {
					if x.at <= now {
						e.Executed(ran(x.r))
					}
				}
				if e.Timeout(now) {
					ends++
				}
				if e.Suspecting() {
					t.Fatalf("configuration %d, run %d: it suspects at %d", at, run, now)
				}
				if d.below(20) == 0 && e.Quorum(now) {
					views++
				}
			}
		}
	}
	if ends < 1000 || views < 500 {
		t.Errorf("%d ends, %d views", ends, views)
	}
}

// party is F+1 replicas that hear one another.
type party struct {
	c     api.Config
	d     *dice
	who   []int
	at    []*election.Election
	clock []uint64 // they need not be the same
}

// newParty has replicas with a past of their own each: views, lengths, requests that wait, suspicion.
func newParty(t *testing.T, c api.Config, d *dice) *party {
	p := &party{c: c, d: d}
	for n := range 2*c.F + 1 {
		if len(p.who) < c.F+1 && (d.below(2) == 0 || 2*c.F+1-n <= c.F+1-len(p.who)) {
			p.who = append(p.who, n)
		}
	}
	for i, n := range p.who {
		p.clock = append(p.clock, uint64(d.below(1000)))
		e := madeOf(t, c, n, p.clock[i])
		p.at = append(p.at, e)
		for k := range one(d, 0, 2, 9) {
			e.Beat(0, beat(bal(uint64(k)+2, 0), false), p.clock[i])
		}
		for k := range one(d, 0, d.below(30)) {
			switch d.below(6) {
			case 0:
				src, m := d.heartbeat(c, e.View())
				e.Beat(src, m, p.clock[i])
			case 1:
				e.Timeout(p.clock[i])
			case 2:
				e.Quorum(p.clock[i])
			default:
				e.Request(req(1000+uint64(d.below(40)), uint64(k+1)))
			}
			p.clock[i] += uint64(d.below(int(c.Epoch) + 1))
		}
	}
	return p
}

// highest tells the highest view, and whether all are in it.
func (p *party) highest() (view api.Ballot, all bool) {
	all = true
	for i, e := range p.at {
		all = all && (i == 0 || e.View() == p.at[0].View())
		if below(view, e.View()) {
			view = e.View()
		}
	}
	return view, all
}

// round is a tick: all look at their clocks, tell one another of it, and look for a quorum.
func (p *party) round() (api.Ballot, bool) {
	for i, e := range p.at {
		e.Timeout(p.clock[i])
	}
	type sent struct {
		src api.Addr
		to  int
		m   api.Msg
	}
	var net []sent
	for i, e := range p.at {
		for to := range p.at {
			net = append(net, sent{api.Addr(p.who[i]), to, beat(e.View(), e.Suspecting())})
		}
	}
	for len(net) > 0 {
		k := p.d.below(len(net))
		p.at[net[k].to].Beat(net[k].src, net[k].m, p.clock[net[k].to])
		net[k] = net[len(net)-1]
		net = net[:len(net)-1]
	}
	view, all := p.highest()
	for i, e := range p.at {
		e.Quorum(p.clock[i])
		p.clock[i]++
	}
	return view, all
}

// P13.10, the last part: a request that never runs brings F+1 that hear one another into one higher view, before 2 EpochMax + 2 ticks have gone by. Other requests may run meanwhile.
func TestP13_10Turn(t *testing.T) {
	for at, c := range []api.Config{withF(1), withF(2), withF(3), withEpochs(1, 1, 1), withEpochs(2, 1, 2), withEpochs(3, 1, 50), withEpochs(2, 20, 21), withEpochs(1, 40, 100)} {
		late := uint64(0)
		for run := range 150 {
			d := &dice{uint64(700*at + run)}
			p := newParty(t, c, d)
			seq := uint64(1)
			for i, e := range p.at {
				if len(e.State().This) == 32 {
					e.Executed(ran(e.State().This[0]))
				}
				if !e.Request(req(999, 1)) {
					t.Fatalf("replica %d does not hear it", p.who[i])
				}
			}
			first, _ := p.highest()
			begun, done := uint64(0), false
			for ; begun < 2*c.EpochMax+2 && !done; begun++ {
				view, all := p.round()
				done = all && below(first, view)
				e := p.at[d.below(len(p.at))]
				seq++
				if e.Request(req(2000, seq)); d.below(2) == 0 {
					e.Executed(ran(req(2000, seq), req(1000+uint64(d.below(40)), 100)))
				}
			}
			if !done {
				t.Fatalf("configuration %d, run %d: %d ticks have gone by, and they are in %v and %v, first %v", at, run, begun, p.at[0].State(), p.at[1].State(), first)
			}
			late = max(late, begun)
		}
		t.Logf("configuration %d: at most %d ticks of %d", at, late, 2*c.EpochMax+2)
	}
}

// The same from the beginning on: it takes two epochs, and ever longer ones from view to view.
func TestP13_10Turns(t *testing.T) {
	c := withEpochs(1, 10, 80)
	p := &party{c: c, d: &dice{3}, who: []int{0, 2}, clock: []uint64{0, 500}}
	for i, n := range p.who {
		p.at = append(p.at, madeOf(t, c, n, p.clock[i]))
		asked(t, p.at[i], req(300, 1))
	}
	now, want := uint64(0), []uint64{20, 40, 80, 160, 240, 320}
	for n := range want {
		for ; rank(c, p.at[0].View()) == uint64(n); now++ {
			p.round()
		}
		if now-1 != want[n] {
			t.Errorf("view %d begins at %d, want %d", n+1, now-1, want[n])
		}
	}
}
