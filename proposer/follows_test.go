package proposer_test

import (
	"testing"

	"quorum/acceptor"
	"quorum/api"
	"quorum/proposer"
)

// spot is a slot under a ballot.
type spot struct {
	slot uint64
	bal  api.Ballot
}

// node is one replica: the two roles, the records of both that are durable, and all that its proposer was ever handed or has begun.
type node struct {
	a      *acceptor.Acceptor
	p      *proposer.Proposer
	log    []api.Record
	begun  map[api.Ballot]int
	handed []api.Request
}

// packet is a message on its way.
type packet struct {
	src, to api.Addr
	m       api.Msg
}

// world is a few replicas and a network that loses, doubles and mixes; it remembers every proposal and every vote.
type world struct {
	t        *testing.T
	c        api.Config
	d        *dice
	nodes    []*node
	net      []packet
	proposed map[spot]api.Batch
	voted    map[spot]map[api.Addr]api.Batch
	requests byte
}

func newWorld(t *testing.T, c api.Config, d *dice) *world {
	w := &world{t: t, c: c, d: d, proposed: map[spot]api.Batch{}, voted: map[spot]map[api.Addr]api.Batch{}}
	for n := range 2*c.F + 1 {
		w.nodes = append(w.nodes, &node{begun: map[api.Ballot]int{}})
		w.restart(n)
	}
	return w
}

// restart begins both roles of a replica again from what is durable.
func (w *world) restart(n int) {
	w.t.Helper()
	k := w.nodes[n]
	var err, wrong error
	k.a, err = acceptor.Recover(w.c, n, k.log)
	k.p, wrong = proposer.Recover(w.c, n, k.log)
	if err != nil || wrong != nil {
		w.t.Fatalf("replica %d does not begin again: %v, %v", n, err, wrong)
	}
}

// carry makes a step's records durable and sends its messages; or the host crashes ahead of that.
func (w *world) carry(n int, s api.Step) {
	w.t.Helper()
	if len(s.Recs) > 0 && w.d.below(20) == 0 {
		w.restart(n)
		return
	}
	k := w.nodes[n]
	k.log = append(k.log, s.Recs...)
	for _, r := range s.Recs {
		if r.Kind == api.RStart {
			k.begun[r.Bal]++
		}
	}
	for _, send := range s.Sends {
		w.look(n, send.Msg)
		for range one(w.d, 0, 1, 1, 1, 2) {
			w.net = append(w.net, packet{api.Addr(n), send.To, send.Msg})
		}
	}
	if w.d.below(60) == 0 {
		w.restart(n)
	}
}

// look remembers what a message says, and holds P11.12 and P11.13 against it.
func (w *world) look(n int, m api.Msg) {
	w.t.Helper()
	at := spot{m.Slot, m.Bal}
	switch m.Kind {
	case api.KAccept:
		if w.voted[at] == nil {
			w.voted[at] = map[api.Addr]api.Batch{}
		}
		w.voted[at][api.Addr(n)] = m.Batch
	case api.KPrepare:
		if w.nodes[n].begun[m.Bal] != 1 {
			w.t.Fatalf("P11.12: %v was begun %d times", m.Bal, w.nodes[n].begun[m.Bal])
		}
	case api.KPropose:
		if b, ok := w.proposed[at]; ok && !same(b, m.Batch) {
			w.t.Fatalf("P11.12: two batches for %+v: %+v and %+v", at, b, m.Batch)
		}
		if w.nodes[n].begun[m.Bal] != 1 || m.Bal.Node != n {
			w.t.Fatalf("P11.12: %d proposes under %v", n, m.Bal)
		}
		w.proposed[at] = m.Batch
		for _, r := range m.Batch.Reqs {
			if !w.wasHanded(n, r) {
				w.t.Fatalf("P11.13: %d proposes %+v from nowhere", n, r)
			}
		}
	}
}

func (w *world) wasHanded(n int, r api.Request) bool {
	for _, h := range w.nodes[n].handed {
		if same(h, r) {
			return true
		}
	}
	return false
}

// fresh gives requests that nobody has asked for in this way.
func (w *world) fresh() []api.Request {
	var list []api.Request
	for range 1 + w.d.below(3) {
		w.requests++
		list = append(list, api.Request{Client: 256 + uint64(w.d.below(6)), Seq: 1 + uint64(w.d.below(50)), Cmd: []byte{w.requests}})
	}
	return list
}

// deliver hands a message to the role that it is for.
func (w *world) deliver() {
	w.t.Helper()
	if len(w.net) == 0 {
		return
	}
	i := w.d.below(len(w.net))
	at := w.net[i]
	w.net[i] = w.net[len(w.net)-1]
	w.net = w.net[:len(w.net)-1]
	k := w.nodes[at.to]
	switch at.m.Kind {
	case api.KPrepare:
		w.carry(int(at.to), k.a.Prepare(at.src, at.m))
	case api.KPropose:
		w.carry(int(at.to), k.a.Propose(at.src, at.m))
	case api.KPromise:
		for _, v := range at.m.Votes {
			k.handed = append(k.handed, v.Batch.Reqs...)
		}
		k.p.Promise(at.src, at.m)
	}
}

// act lets one replica do something by itself.
func (w *world) act() {
	w.t.Helper()
	n := w.d.below(len(w.nodes))
	k := w.nodes[n]
	switch w.d.below(14) {
	case 0:
		waiting := w.fresh()
		k.handed = append(k.handed, waiting...)
		view := k.p.State().Bal
		w.carry(n, k.p.Enter(bal(view.Num+uint64(w.d.below(3)), one(w.d, n, n, n, 0)), waiting))
	case 1, 2:
		for _, r := range w.fresh() {
			k.handed = append(k.handed, r)
			k.p.Request(r)
		}
	case 3, 4, 5:
		w.carry(n, k.p.Lead(k.a.Low()))
	case 6:
		w.carry(n, k.p.Resend())
	case 7:
		k.a.Beat(api.Addr(w.d.below(len(w.nodes))), api.Msg{Kind: api.KBeat, Slot: k.a.Low() + uint64(w.d.below(3))})
		w.carry(n, k.a.Truncate())
	default:
		low := k.a.Low()
		if w.d.below(20) == 0 {
			low = uint64(w.d.below(12))
		}
		s := k.p.Nominate(uint64(w.d.below(100)), low)
		if len(s.Sends) > 0 && s.Sends[0].Msg.Slot >= low+w.c.Window {
			w.t.Fatalf("P11.13: slot %d with low %d", s.Sends[0].Msg.Slot, low)
		}
		w.carry(n, s)
	}
}

// judge holds P11.11 against all that was voted for and proposed, in whatever order it was. It tells how many spots had a quorum and how often a later ballot came upon one.
func (w *world) judge() (chosen, again int) {
	w.t.Helper()
	for at, votes := range w.voted {
		if len(votes) <= w.c.F {
			continue
		}
		chosen++
		var first api.Batch
		for _, b := range votes {
			first = b
		}
		for other, b := range w.proposed {
			if other.slot == at.slot && below(at.bal, other.bal) {
				again++
				if !same(b, first) {
					w.t.Fatalf("P11.11: %+v is chosen at %+v, and %+v proposed at %+v", first, at, b, other)
				}
			}
		}
	}
	return chosen, again
}

// Replicas that crash, a network that loses, doubles and mixes, many leaders.
func TestP11_11Follows(t *testing.T) {
	chosen, again := 0, 0
	for at, c := range shapes() {
		c.MaxNum = 1000
		for run := range 80 {
			w := newWorld(t, c, &dice{uint64(777*at + run)})
			for range 900 {
				if w.d.below(3) > 0 {
					w.deliver()
				} else {
					w.act()
				}
			}
			n, k := w.judge()
			chosen, again = chosen+n, again+k
		}
	}
	if chosen < 500 || again < 200 {
		t.Errorf("%d were chosen, %d proposed again", chosen, again)
	}
}

// The promise in small: a quorum of three has voted, one of it is asked, and the next leader has no choice.
func TestP11_11Small(t *testing.T) {
	w := newWorld(t, small(), &dice{})
	first, second := w.nodes[0].p, w.nodes[1].p
	first.Enter(bal(1, 0), many(2))
	first.Promise(0, promise(bal(1, 0), 0))
	first.Promise(1, promise(bal(1, 0), 0))
	first.Lead(0)
	m := first.Nominate(5, 0).Sends[0].Msg
	w.nodes[0].a.Propose(0, m)
	w.nodes[2].a.Propose(0, m)
	ask := second.Enter(bal(2, 1), []api.Request{r1(), s1()}).Sends[0].Msg
	for _, n := range []int{1, 2} {
		if !second.Promise(api.Addr(n), w.nodes[n].a.Prepare(1, ask).Sends[0].Msg) {
			t.Errorf("the promise of %d is not taken", n)
		}
	}
	second.Lead(0)
	isStep(t, "what was chosen", second.Nominate(9, 0), proposed(3, bal(2, 1), 0, batch(5, many(2)...)))
	isStep(t, "then its own", second.Nominate(9, 0), proposed(3, bal(2, 1), 1, batch(9, r1(), s1())))
}

// A proposer that was lost never proposes under a ballot that it had begun.
func TestP11_12Lost(t *testing.T) {
	p := made(t)
	var log []api.Record
	for num := uint64(1); num < 10; num++ {
		s := p.Enter(bal(num, 0), many(3))
		isStep(t, "begun", s, begun(3, bal(num, 0)))
		log = append(log, s.Recs...)
		q, err := proposer.Recover(small(), 0, log)
		if err != nil {
			t.Fatal(err)
		}
		p = q
		isState(t, "lost", p, api.ProposerState{Bal: bal(num, 0)})
		isNothing(t, "begun already", p, func() api.Step { return p.Enter(bal(num, 0), many(3)) })
		isFalse(t, "a late promise", p, func() bool { return p.Promise(1, promise(bal(num, 0), 0)) })
		isNothing(t, "no lead", p, func() api.Step { return p.Lead(0) })
		isNothing(t, "no proposal", p, func() api.Step { return p.Nominate(1, 0) })
		isNothing(t, "nothing again", p, p.Resend)
	}
}
