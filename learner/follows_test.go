package learner_test

import (
	"testing"

	"quorum/acceptor"
	"quorum/api"
	"quorum/learner"
	"quorum/proposer"
)

// cast is a vote as it was sent: two with the same text are votes for the same batch.
type cast struct {
	slot uint64
	bal  api.Ballot
	text string
}

// text tells a batch unmistakably.
func text(b api.Batch) string {
	var s []byte
	number := func(n uint64) {
		for range 8 {
			s, n = append(s, byte(n)), n>>8
		}
	}
	number(b.Stamp)
	for _, r := range b.Reqs {
		number(r.Client)
		number(r.Seq)
		number(uint64(len(r.Cmd)))
		s = append(s, r.Cmd...)
	}
	return string(s)
}

// P12.6 against replicas that say anything: for one ballot and slot now this batch and now that.
func TestP12_6VotedFor(t *testing.T) {
	told, gone := 0, 0
	for at, c := range shapes() {
		for run := range 40 {
			d := &dice{uint64(31*at + run)}
			l := madeOf(t, c, 0)
			sent := map[cast]api.NodeSet{}
			was := map[uint64]api.Batch{}
			for range 400 {
				src, m := d.message(c, l.Low())
				if m.Kind == api.KAccept && src <= api.Addr(2*c.F) {
					sent[cast{m.Slot, m.Bal, text(m.Batch)}] |= 1 << src
				}
				l.Accept(src, m)
				if d.below(25) == 0 {
					l.Forget(l.Low() + 1)
				}
				for slot := range min(l.Low()+20, c.MaxSlot) {
					b, ok := l.Decided(slot)
					old, before := was[slot]
					switch {
					case slot < l.Low() && ok:
						t.Fatalf("slot %d is told behind %d", slot, l.Low())
					case slot < l.Low() && before:
						gone++
						delete(was, slot)
					case slot < l.Low():
					case before && (!ok || !same(b, old)):
						t.Fatalf("slot %d was %+v, is %+v %v", slot, old, b, ok)
					case ok && !before:
						told++
						was[slot] = b
						if !quorumSent(c, sent, slot, b) {
							t.Fatalf("slot %d: no quorum has sent %+v", slot, b)
						}
					}
				}
			}
		}
	}
	if told < 500 || gone < 200 {
		t.Errorf("%d were told, %d forgotten", told, gone)
	}
}

// quorumSent tells whether F+1 replicas have sent a batch for a slot under one ballot.
func quorumSent(c api.Config, sent map[cast]api.NodeSet, slot uint64, b api.Batch) bool {
	for at, from := range sent {
		n := 0
		for k := range 2*c.F + 1 {
			n += int(from >> k & 1)
		}
		if at.slot == slot && at.text == text(b) && n > c.F {
			return true
		}
	}
	return false
}

// node is one replica: three roles, the records of two of them that are durable, and the mark: the learner has told all slots below. Its run slot is the next to be told.
type node struct {
	a    *acceptor.Acceptor
	p    *proposer.Proposer
	l    *learner.Learner
	log  []api.Record
	mark uint64
	run  uint64
}

// packet is a message on its way.
type packet struct {
	src, to api.Addr
	m       api.Msg
}

// world is a few replicas and a network that loses, doubles and mixes; it remembers what any learner has ever told.
type world struct {
	t       *testing.T
	c       api.Config
	d       *dice
	nodes   []*node
	guests  []*learner.Learner // learners that only listen
	net     []packet
	decided map[uint64]api.Batch
	ballots map[uint64]map[api.Ballot]int // under which a slot was voted for
	number  uint64
	cuts    int
	agreed  int
}

func newWorld(t *testing.T, c api.Config, d *dice) *world {
	w := &world{t: t, c: c, d: d, decided: map[uint64]api.Batch{}, ballots: map[uint64]map[api.Ballot]int{}}
	for n := range 2*c.F + 1 {
		w.nodes = append(w.nodes, &node{})
		w.restart(n)
	}
	return w
}

// restart begins all roles of a replica again: two from the records so far, the learner from the mark.
func (w *world) restart(n int) {
	w.t.Helper()
	k := w.nodes[n]
	var errs [3]error
	k.a, errs[0] = acceptor.Recover(w.c, n, k.log)
	k.p, errs[1] = proposer.Recover(w.c, n, k.log)
	k.l, errs[2] = learner.New(w.c, k.mark)
	k.run = k.mark
	if errs != [3]error{} {
		w.t.Fatalf("replica %d does not begin again: %v", n, errs)
	}
}

// carry makes a step's records durable and sends its messages. Sometimes the host crashes behind that.
func (w *world) carry(n int, s api.Step) {
	w.t.Helper()
	k := w.nodes[n]
	k.log = append(k.log, s.Recs...)
	if len(s.Sends) > 0 && w.d.below(80) == 0 {
		w.restart(n)
	}
	for _, send := range s.Sends {
		if m := send.Msg; m.Kind == api.KAccept {
			if w.ballots[m.Slot] == nil {
				w.ballots[m.Slot] = map[api.Ballot]int{}
			}
			w.ballots[m.Slot][m.Bal]++
		}
		for range one(w.d, 0, 1, 1, 1, 1, 2) {
			w.net = append(w.net, packet{api.Addr(n), send.To, send.Msg})
		}
	}
}

// hears lets a learner count, and holds all that it tells against what any has told.
func (w *world) hears(l *learner.Learner, src api.Addr, m api.Msg) {
	w.t.Helper()
	l.Accept(src, m)
	for slot := l.Low(); slot < l.Low()+16; slot++ {
		b, ok := l.Decided(slot)
		if !ok {
			continue
		}
		if old, before := w.decided[slot]; before && !same(old, b) {
			w.t.Fatalf("P12.7: slot %d: one tells %+v, one %+v", slot, old, b)
		} else if before {
			w.agreed++
		}
		w.decided[slot] = b
	}
}

// deliver hands a message to the role that it is for.
func (w *world) deliver() {
	w.t.Helper()
	if len(w.net) == 0 {
		return
	}
	i := w.d.below(len(w.net))
	at := w.net[i]
	w.net[i] = w.net[len(w.net)-1]
	w.net = w.net[:len(w.net)-1]
	n, k := int(at.to), w.nodes[at.to]
	switch at.m.Kind {
	case api.KPrepare:
		w.carry(n, k.a.Prepare(at.src, at.m))
	case api.KPropose:
		w.carry(n, k.a.Propose(at.src, at.m))
	case api.KPromise:
		k.p.Promise(at.src, at.m)
	case api.KBeat:
		k.a.Beat(at.src, at.m)
	case api.KAccept:
		w.hears(k.l, at.src, at.m)
		for _, g := range w.guests {
			if w.d.below(3) == 0 {
				w.hears(g, at.src, at.m)
			}
		}
	}
}

// rush lets a leader go through its phases if it can.
func (w *world) rush(n int) {
	w.t.Helper()
	k := w.nodes[n]
	w.carry(n, k.p.Lead(max(k.a.Low(), k.l.Low())))
	w.carry(n, w.nodes[n].p.Nominate(uint64(w.d.below(100)), w.nodes[n].a.Low()))
}

// runs tells the decided slots in order, makes a mark at times, and tells all of it; one that fell behind takes over another's mark.
func (w *world) runs(n int) {
	w.t.Helper()
	k := w.nodes[n]
	for {
		b, ok := k.l.Decided(k.run)
		if !ok {
			break
		}
		k.p.Executed(b)
		k.run++
	}
	if other := w.nodes[w.d.below(len(w.nodes))]; w.d.below(6) == 0 && other.mark > k.run {
		k.run = other.mark
	}
	k.mark = k.run - k.run%w.c.Every
	k.l.Forget(k.mark)
	var s api.Step
	for to := range w.nodes {
		s.Sends = append(s.Sends, api.Send{To: api.Addr(to), Msg: api.Msg{Kind: api.KBeat, Slot: k.mark}})
	}
	w.carry(n, s)
}

// act lets one replica do something by itself.
func (w *world) act() {
	w.t.Helper()
	n := w.d.below(len(w.nodes))
	k := w.nodes[n]
	switch w.d.below(16) {
	case 0:
		if w.d.below(2) > 0 {
			break
		}
		view := k.p.State().Bal
		w.carry(n, k.p.Enter(bal(view.Num+uint64(w.d.below(3)), one(w.d, n, n, n, 0)), nil))
	case 1, 2, 3:
		w.number++
		k.p.Request(req(256+w.number%5, w.number, byte(w.number), byte(n)))
	case 4:
		w.carry(n, k.p.Resend())
	case 5, 6:
		w.runs(n)
	case 7:
		s := k.a.Truncate()
		w.cuts += len(s.Recs)
		w.carry(n, s)
	case 8:
		if len(w.guests) < 3 {
			guest, err := learner.New(w.c, uint64(w.d.below(int(w.nodes[n].run)+1)))
			if err != nil {
				w.t.Fatal(err)
			}
			w.guests = append(w.guests, guest)
		}
	default:
		w.rush(n)
	}
}

// P12.7: replicas that crash, a network that loses, doubles and mixes, many leaders, votes that are cut, learners that begin at any time.
func TestP12_7Agreement(t *testing.T) {
	decided, twice, cuts, agreed := 0, 0, 0, 0
	for at, c := range shapes() {
		c.MaxNum, c.Delay = 1000, min(c.Delay, 5)
		for run := range 60 {
			w := newWorld(t, c, &dice{uint64(777*at + run)})
			for range 1500 {
				if w.d.below(3) > 0 {
					w.deliver()
				} else {
					w.act()
				}
			}
			for slot := range w.decided {
				if len(w.ballots[slot]) > 1 {
					twice++
				}
			}
			decided, cuts, agreed = decided+len(w.decided), cuts+w.cuts, agreed+w.agreed
		}
	}
	if decided < 1000 || twice < 300 || cuts < 200 || agreed < 5000 {
		t.Errorf("%d slots decided, %d of them under more than one ballot, %d cuts, %d times the same", decided, twice, cuts, agreed)
	}
}
