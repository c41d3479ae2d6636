package replica_test

import (
	"testing"

	"quorum/acceptor"
	"quorum/api"
	"quorum/election"
	"quorum/learner"
	"quorum/proposer"
	"quorum/session"
	"quorum/xfer"
)

// second is a plainer replica: the roles of the layers below, and the chapter's words one after the other.
type second struct {
	c                         api.Config
	self, action              int
	now, beatAt, mark         uint64
	a                         *acceptor.Acceptor
	p                         *proposer.Proposer
	l                         *learner.Learner
	e                         *election.Election
	supplier                  *xfer.Supplier
	fetcher                   *xfer.Fetcher
	machine                   *session.Machine
	fetches, refused, drawsOn int // how often such things came up
}

func newSecond(t testing.TB, c api.Config, self int, recs []api.Record, now uint64) *second {
	t.Helper()
	s := &second{c: c, self: self, now: now, beatAt: now, machine: machineOf(t)}
	var errs [7]error
	s.supplier, errs[0] = xfer.NewSupplier(c, self)
	s.fetcher, errs[1] = xfer.NewFetcher(c, self)
	for _, r := range recs {
		if r.Kind == api.RCheck {
			s.machine, errs[2] = session.Load(r.Data)
			s.mark = r.Slot
			if s.mark > 0 {
				s.supplier.Put(s.mark, r.Data)
			}
		}
	}
	s.a, errs[3] = acceptor.Recover(c, self, recs)
	s.p, errs[4] = proposer.Recover(c, self, recs)
	s.e, errs[5] = election.Recover(c, self, now, recs)
	s.l, errs[6] = learner.New(c, s.machine.Slot())
	if errs != [7]error{} {
		t.Fatalf("the roles do not begin: %v", errs)
	}
	return s
}

func (s *second) state() api.ReplicaState {
	return api.ReplicaState{
		Action: s.action, Now: s.now, BeatAt: s.beatAt, Mark: s.mark,
		Acceptor: s.a.State(), Proposer: s.p.State(), Learner: s.l.State(), Election: s.e.State(),
		Supplier: s.supplier.State(), Fetcher: s.fetcher.State(), Machine: s.machine.Image(),
	}
}

func (s *second) act(in api.ReplicaIn) (out api.ReplicaOut) {
	if in.Now > s.now {
		s.now = in.Now
	}
	if s.now > 1<<40 {
		s.now = 1 << 40
	}
	var step api.Step
	switch s.action {
	case 0:
		if in.Has {
			step = s.hear(in.Src, in.Msg)
		}
	case 1:
		step = s.p.Enter(s.e.View(), s.e.Waiting())
	case 2:
		step = s.p.Lead(s.a.Low())
	case 3:
		step = s.p.Nominate(s.now, s.a.Low())
	case 4:
		step = s.a.Truncate()
	case 5:
		out = s.run()
	case 6:
		s.e.Timeout(s.now)
	case 7:
		s.e.Quorum(s.now)
	case 8:
		step = s.beat()
	case 9:
		out = s.fetch()
	}
	s.action++
	if s.action == 10 {
		s.action = 0
	}
	if step.Recs != nil || step.Sends != nil {
		out.Recs, out.Sends = step.Recs, step.Sends
	}
	return out
}

func (s *second) hear(src api.Addr, m api.Msg) (step api.Step) {
	up := s.machine.Slot()
	led := m.Bal.Num >= 1 && m.Bal.Num <= s.c.MaxNum && m.Bal.Node >= 0 && m.Bal.Node <= 2*s.c.F && uint64(src) == uint64(m.Bal.Node)
	if led && (m.Kind == api.KPrepare || m.Kind == api.KPropose || m.Kind == api.KLead) {
		s.e.Beat(src, api.Msg{Kind: api.KBeat, Bal: m.Bal}, s.now)
	}
	switch m.Kind {
	case api.KRequest:
		if src < 256 || m.Seq < 1 || len(m.Cmd) > 700 {
			return step
		}
		reply, code := s.machine.Ask(uint64(src), m.Seq)
		if code == api.OK {
			step.Sends = sent(src, api.Msg{Kind: api.KReply, Seq: reply.Seq, Stamp: reply.Stamp, Code: reply.Code, Data: reply.Data})
		} else if code != api.ErrSessionOld {
			s.e.Request(api.Request{Client: uint64(src), Seq: m.Seq, Cmd: m.Cmd})
			s.p.Request(api.Request{Client: uint64(src), Seq: m.Seq, Cmd: m.Cmd})
		}
	case api.KPrepare:
		step = s.a.Prepare(src, m)
	case api.KPropose:
		was := s.a.Low()
		step = s.a.Propose(src, m)
		if s.a.Low() > was {
			s.drawsOn++
		}
	case api.KLead:
		if led && m.Low > up && m.Low <= s.c.MaxSlot {
			step.Sends = s.fetcher.Aim(src, m.Low, up, s.now)
		}
	case api.KPromise:
		s.p.Promise(src, m)
	case api.KAccept:
		s.l.Accept(src, m)
	case api.KBeat:
		if src > api.Addr(2*s.c.F) {
			return step
		}
		s.e.Beat(src, m, s.now)
		s.a.Beat(src, m)
		if _, decided := s.l.Decided(up); !decided && m.Slot > up && m.Slot <= s.c.MaxSlot {
			step.Sends = s.fetcher.Aim(src, m.Slot, up, s.now)
		}
	case api.KWant:
		step.Sends = s.supplier.Want(src, m)
	case api.KGive:
		step.Sends = s.fetcher.Give(src, m, s.now)
	}
	return step
}

func (s *second) base() []api.Record {
	data, err := s.machine.Snapshot()
	if err != nil || s.supplier.Put(s.machine.Slot(), data) != nil {
		panic("no checkpoint")
	}
	s.mark = s.machine.Slot()
	base := append([]api.Record{check(s.mark, data)}, s.a.Records()...)
	if b := s.p.State().Bal; b != bal(0, 0) {
		base = append(base, api.Record{Kind: api.RStart, Bal: b})
	}
	return base
}

func (s *second) run() (out api.ReplicaOut) {
	slot := s.machine.Slot()
	b, decided := s.l.Decided(slot)
	if slot == s.c.MaxSlot || !decided {
		return out
	}
	replies, err := s.machine.Batch(b)
	if err != nil {
		panic("a batch that the machine refuses")
	}
	out = api.ReplicaOut{Ran: true, Slot: slot, Batch: b}
	for _, r := range replies {
		out.Sends = append(out.Sends, api.Send{To: api.Addr(r.Client), Msg: api.Msg{Kind: api.KReply, Seq: r.Seq, Stamp: r.Stamp, Code: r.Code, Data: r.Data}})
	}
	s.e.Executed(b)
	s.p.Executed(b)
	s.l.Forget(slot + 1)
	s.fetcher.Drop(slot + 1)
	if (slot+1)%s.c.Every == 0 {
		out.Base = s.base()
	}
	return out
}

func (s *second) beat() (step api.Step) {
	if s.now < s.beatAt || s.now == 1<<40 {
		return step
	}
	s.beatAt = min(s.now+s.c.Beat, 1<<40)
	step.Sends = toAll(2*s.c.F+1, beat(s.e.View(), s.mark, s.e.Suspecting()))
	again := s.p.Resend()
	return api.Step{Recs: again.Recs, Sends: append(step.Sends, again.Sends...)}
}

func (s *second) fetch() (out api.ReplicaOut) {
	slot, data, ready := s.fetcher.Ready()
	if !ready {
		out.Sends = s.fetcher.Tick(s.now)
		return out
	}
	m, err := session.Load(data)
	if err != nil || slot <= s.machine.Slot() || slot > s.c.MaxSlot || m.Slot() != slot {
		s.fetcher.Drop(slot)
		s.refused++
		return out
	}
	s.fetches++
	s.machine = m
	s.l.Forget(slot)
	for _, x := range m.Image().Sessions {
		one := batch(0, req(x.Client, x.Seq))
		s.e.Executed(one)
		s.p.Executed(one)
	}
	s.fetcher.Drop(slot)
	return api.ReplicaOut{Installed: true, Slot: slot, Base: s.base()}
}

// anything gives a message of any kind, mostly one that says something to a replica of that state.
func (d *dice) anything(t testing.TB, c api.Config, s *second) (api.Addr, api.Msg) {
	t.Helper()
	up, view := s.machine.Slot(), s.e.View()
	b := view
	if d.below(12) == 0 {
		b = one(d, s.a.State().Max, s.p.State().Bal, bal(view.Num+uint64(d.below(2)), d.below(2*c.F+1)), bal(view.Num+1, s.self))
	}
	src := api.Addr(d.below(2*c.F + 1))
	x := batch(uint64(d.below(3)), req(300+uint64(d.below(3)), up+1+uint64(d.below(2)), transfer(byte(d.below(3)))...))
	slot := up + uint64(one(d, 0, 0, 0, 1, 2, 5))
	var m api.Msg
	switch d.below(16) {
	case 0, 1:
		m, src = request(up+uint64(d.below(4)), transfer(1)...), api.Addr(300+d.below(4))
	case 2:
		m = prepare(b)
	case 3:
		m = promise(s.p.State().Bal, up-min(up, uint64(d.below(2))))
		if d.below(4) == 0 {
			m.Votes = []api.Vote{{Slot: m.Low, Bal: bal(1, 0), Batch: x}}
		}
	case 4:
		m = lead(b, up+uint64(d.below(3)))
	case 5, 6:
		m = propose(b, slot, x)
	case 7, 8, 9, 10:
		m = accept(bal(1, 0), slot, batch(slot, req(300+slot%3, slot, transfer(1)...)))
	case 11, 12:
		m = beat(b, one(d, 0, up, up+1, up+3, s.mark), d.below(3) == 0)
	case 13:
		m = want(one(d, s.mark, up), uint64(d.below(2)))
	default:
		m = d.chunk(t, s, up)
	}
	if m.Kind == api.KPrepare || m.Kind == api.KLead || m.Kind == api.KPropose {
		src = api.Addr(m.Bal.Node)
	}
	return d.spoil(c, src, m)
}

// chunk is the next one of a snapshot, mostly a good one, of the slot that is fetched, or of a later one.
func (d *dice) chunk(t testing.TB, s *second, up uint64) api.Msg {
	slot := s.fetcher.State().Goal
	if slot == 0 {
		slot = up + uint64(d.below(3))
	}
	slot += uint64(d.below(10) / 9)
	if slot == 0 || slot > 1<<40 {
		return want(slot, 0)
	}
	data := snapshotAt(t, slot, api.Session{Client: 300, Seq: slot, Stamp: 1})
	switch d.below(6) {
	case 0:
		data = snapshotAt(t, slot-1)
	case 1:
		data = data[1:]
	}
	return supplied(t, slot, data)[0]
}

// spoil changes a message or its source in one thing, now and then.
func (d *dice) spoil(c api.Config, src api.Addr, m api.Msg) (api.Addr, api.Msg) {
	switch d.below(30) {
	case 0:
		src = one(d, strangers(2*c.F+1)...)
	case 1:
		src = api.Addr(d.below(2*c.F + 1))
	case 2:
		m.Kind = api.Kind(d.below(13) - 1)
	case 3:
		m.Bal = one(d, bal(0, 0), bal(0, 1), bal(c.MaxNum, 0), bal(c.MaxNum+1, 1), bal(1, 2*c.F+1), bal(1, -1))
		if d.below(2) == 0 {
			src = api.Addr(m.Bal.Node)
		}
	case 4:
		m.Slot = one[uint64](d, 0, c.MaxSlot-1, c.MaxSlot, c.MaxSlot+1, most)
	case 5:
		m.Low = one[uint64](d, 0, c.MaxSlot, c.MaxSlot+1, most)
	case 6:
		m.Seq = one[uint64](d, 0, 1, most)
	case 7:
		m.Cmd = make([]byte, one(d, 0, 700, 701))
	case 8:
		m.Batch.Stamp = one[uint64](d, 1<<40, 1<<40+1)
	case 9:
		m.Suspect = !m.Suspect
	}
	return src, m
}

// shapes are the configurations of the long runs.
func shapes() []api.Config {
	tight := with(func(c *api.Config) { c.MaxNum, c.MaxSlot = 3, 9 })
	slow := with(func(c *api.Config) { c.Delay, c.Beat, c.MaxBatch = 9, 2, 8 })
	every := with(func(c *api.Config) { c.Window, c.Every, c.Beat = 1, 1, 1 })
	five := with(func(c *api.Config) { c.F, c.Window, c.Every = 2, 8, 3 })
	return []api.Config{small(), narrow(), tight, slow, every, five, wide()}
}

// The replica and the second one answer alike, and are alike behind each action, whatever they are told, whoever tells it, and from whatever records they begin again.
func TestSecond(t *testing.T) {
	seen := map[string]int{}
	for at, c := range shapes() {
		for run := range 15 {
			d := &dice{uint64(1000*at + run)}
			self := d.below(2*c.F + 1)
			now := one[uint64](d, 0, 0, 50, 1<<40-200)
			r, s := begunOf(t, c, self, now), newSecond(t, c, self, nil, now)
			var log []api.Record
			for range 4000 {
				in := api.ReplicaIn{Now: now}
				if d.below(3) > 0 {
					in.Has = true
					in.Src, in.Msg = d.anything(t, c, s)
				}
				what := s.action
				out := s.act(in)
				if got := r.Act(in); !same(got, out) {
					t.Fatalf("action %d of %+v: %+v, want %+v", what, in, got, out)
				}
				isState(t, "the second one", r, s.state())
				if t.Failed() {
					t.Fatalf("shape %d, run %d, action %d of %+v", at, run, what, in)
				}
				log = kept(log, out)
				note(seen, out)
				now += uint64(one(d, 0, 0, 0, 1, 1, d.below(8)))
				if d.below(500) == 0 {
					seen["begun again"]++
					now -= min(now, uint64(d.below(5)))
					at := min(now, 1<<40)
					r, s = recoveredOf(t, c, self, log, at), keepCounts(s, newSecond(t, c, self, log, at))
					isState(t, "begun again", r, s.state())
				}
			}
			seen["fetched"] += s.fetches
			seen["refused"] += s.refused
			seen["drawn on"] += s.drawsOn
		}
	}
	for what, least := range map[string]int{"ran": 300, "fetched": 100, "refused": 30, "drawn on": 50, "begun again": 500, "base": 300, "records": 500, "start": 100, "promise": 100, "propose": 300, "reply": 100, "give": 20, "want": 200, "lead": 20, "accept": 300, "beat": 1000} {
		if seen[what] < least {
			t.Errorf("%s: only %d times", what, seen[what])
		}
	}
}

func keepCounts(old, s *second) *second {
	s.fetches, s.refused, s.drawsOn = old.fetches, old.refused, old.drawsOn
	return s
}

// kept is the log behind an answer.
func kept(log []api.Record, out api.ReplicaOut) []api.Record {
	if out.Base != nil {
		return out.Base
	}
	return append(log, out.Recs...)
}

// note counts what an answer has.
func note(seen map[string]int, out api.ReplicaOut) {
	if out.Ran {
		seen["ran"]++
	}
	if out.Base != nil {
		seen["base"]++
	}
	for _, r := range out.Recs {
		seen["records"]++
		if r.Kind == api.RStart {
			seen["start"]++
		}
	}
	names := []string{api.KReply: "reply", api.KPrepare: "prepare", api.KPromise: "promise", api.KLead: "lead", api.KPropose: "propose", api.KAccept: "accept", api.KBeat: "beat", api.KWant: "want", api.KGive: "give"}
	for _, send := range out.Sends {
		seen[names[send.Msg.Kind]]++
	}
}
