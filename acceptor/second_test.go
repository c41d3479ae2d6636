package acceptor_test

import (
	"slices"
	"testing"

	"quorum/acceptor"
	"quorum/api"
)

// second is a plainer acceptor: it keeps every record ever taken, and looks all of them through whenever it is asked.
type second struct {
	c     api.Config
	recs  []api.Record
	marks []uint64
}

// below tells whether a ballot is below another.
func below(a, b api.Ballot) bool { return a.Num < b.Num || a.Num == b.Num && a.Node < b.Node }

func (s *second) max() api.Ballot {
	var most api.Ballot
	for _, r := range s.recs {
		if (r.Kind == api.RPromise || r.Kind == api.RVote) && below(most, r.Bal) {
			most = r.Bal
		}
	}
	return most
}

// low: a vote below low never raises it, so the order of the records does not matter.
func (s *second) low() uint64 {
	var most uint64
	for _, r := range s.recs {
		switch {
		case r.Kind == api.RLow:
			most = max(most, r.Slot)
		case r.Kind == api.RVote && r.Slot+1 > s.c.Window:
			most = max(most, r.Slot+1-s.c.Window)
		}
	}
	return most
}

// votes: of each slot from low on the one of the highest ballot, the last one of that.
func (s *second) votes() []api.Vote {
	var list []api.Vote
	for slot := s.low(); slot < s.low()+s.c.Window; slot++ {
		best := api.Record{}
		for _, r := range s.recs {
			if r.Kind == api.RVote && r.Slot == slot && !below(r.Bal, best.Bal) {
				best = r
			}
		}
		if best.Kind == api.RVote {
			list = append(list, vote(slot, best.Bal, best.Batch))
		}
	}
	return list
}

func (s *second) state() api.AcceptorState {
	return api.AcceptorState{Max: s.max(), Low: s.low(), Votes: s.votes(), Marks: slices.Clone(s.marks)}
}

func (s *second) records() []api.Record {
	var recs []api.Record
	if s.max() != bal(0, 0) {
		recs = append(recs, rPromise(s.max()))
	}
	if s.low() != 0 {
		recs = append(recs, rLow(s.low()))
	}
	for _, v := range s.votes() {
		recs = append(recs, rVote(v.Bal, v.Slot, v.Batch))
	}
	return recs
}

// led tells whether a ballot is one of the configuration that comes from its leader and is not below max.
func (s *second) led(src api.Addr, b api.Ballot) bool {
	return 1 <= b.Num && b.Num <= s.c.MaxNum && 0 <= b.Node && b.Node <= 2*s.c.F && src == api.Addr(b.Node) && !below(b, s.max())
}

func (s *second) prepare(src api.Addr, m api.Msg) api.Step {
	if m.Kind != api.KPrepare || !s.led(src, m.Bal) {
		return api.Step{}
	}
	step := promised(m.Bal.Node, m.Bal, s.low(), below(s.max(), m.Bal), s.votes()...)
	s.recs = append(s.recs, step.Recs...)
	return step
}

func validBatch(b api.Batch) bool {
	for _, r := range b.Reqs {
		if r.Client < 256 || r.Seq < 1 || len(r.Cmd) > 700 {
			return false
		}
	}
	return b.Stamp <= 1<<40 && len(b.Reqs) <= 8
}

func (s *second) propose(src api.Addr, m api.Msg) api.Step {
	if m.Kind != api.KPropose || !s.led(src, m.Bal) || m.Slot < s.low() || m.Slot >= s.c.MaxSlot || !validBatch(m.Batch) {
		return api.Step{}
	}
	again := false
	for _, v := range s.votes() {
		if v.Slot == m.Slot && v.Bal == m.Bal {
			again = true
			if !same(v.Batch, m.Batch) {
				return api.Step{}
			}
		}
	}
	step := accepted(2*s.c.F+1, m.Bal, m.Slot, m.Batch, !again)
	s.recs = append(s.recs, step.Recs...)
	return step
}

func (s *second) beat(src api.Addr, m api.Msg) bool {
	if m.Kind != api.KBeat || src > api.Addr(2*s.c.F) || m.Slot > s.c.MaxSlot || m.Slot <= s.marks[src] {
		return false
	}
	s.marks[src] = m.Slot
	return true
}

func (s *second) truncate() api.Step {
	// The greatest slot that at least F+1 marks have reached.
	var reached uint64
	for _, slot := range s.marks {
		n := 0
		for _, m := range s.marks {
			if m >= slot {
				n++
			}
		}
		if n > s.c.F {
			reached = max(reached, slot)
		}
	}
	if reached <= s.low() {
		return api.Step{}
	}
	s.recs = append(s.recs, rLow(reached))
	return api.Step{Recs: []api.Record{rLow(reached)}}
}

// batch gives one of a few batches, seldom one that may not be.
func (d *dice) batch() api.Batch {
	b := one(d, empty(), five(), two(), api.Batch{Stamp: uint64(d.below(3)), Reqs: []api.Request{{Client: 256, Seq: 1, Cmd: []byte{byte(d.below(3))}}}})
	if d.below(20) == 0 {
		b = one(d, api.Batch{Stamp: 1<<40 + 1}, api.Batch{Reqs: []api.Request{{Client: 255, Seq: 1}}}, api.Batch{Reqs: []api.Request{{Client: 256}}},
			api.Batch{Reqs: []api.Request{{Client: 300, Seq: 1, Cmd: make([]byte, 701)}}}, api.Batch{Reqs: make([]api.Request, 9)})
	}
	return b
}

// ballot gives one near a ballot, seldom one that may not be.
func (d *dice) ballot(c api.Config, near api.Ballot) api.Ballot {
	switch {
	case d.below(20) == 0:
		return one(d, bal(0, 0), bal(0, 1), bal(c.MaxNum+1, 0), bal(1, 2*c.F+1), bal(near.Num, -1))
	case d.below(4) == 0:
		return bal(near.Num+uint64(d.below(3))-1, d.below(2*c.F+1))
	}
	return near
}

// slot gives one in or near a window, seldom one that is far.
func (d *dice) slot(c api.Config, low uint64) uint64 {
	if d.below(25) == 0 {
		return one(d, 0, c.MaxSlot-1, c.MaxSlot, c.MaxSlot+1, 1<<64-1)
	}
	return low + uint64(d.below(int(c.Window)+3)) - 1
}

// message gives a message and its source, mostly such a one as a leader of a ballot near max sends.
func (d *dice) message(s *second) (api.Addr, api.Msg) {
	kind := one(d, api.KPrepare, api.KPropose, api.KPropose, api.KPropose, api.KPropose, api.KBeat, api.KBeat)
	m := api.Msg{Kind: kind, Bal: d.ballot(s.c, s.max()), Slot: d.slot(s.c, s.low()), Batch: d.batch()}
	src := api.Addr(m.Bal.Node)
	if kind == api.KBeat {
		src = api.Addr(d.below(2*s.c.F + 1))
	}
	if d.below(15) == 0 {
		src = one(d, 0, 1, 2, api.Addr(2*s.c.F+1), 256, 1<<64-1)
	}
	if d.below(30) == 0 {
		m.Kind = api.Kind(d.below(12))
	}
	return src, m
}

// play does one call on both, wants them to answer alike, and tells how it went.
func play(t *testing.T, d *dice, a *acceptor.Acceptor, s *second) (string, api.Step) {
	t.Helper()
	var got, want api.Step
	src, m := d.message(s)
	what := one(d, "prepare", "propose", "propose", "propose", "beat", "truncate")
	if d.below(10) > 0 { // mostly the call for this kind
		what = map[api.Kind]string{api.KPrepare: "prepare", api.KPropose: "propose", api.KBeat: "beat"}[m.Kind]
	}
	switch what {
	case "prepare":
		got, want = a.Prepare(src, m), s.prepare(src, m)
	case "propose":
		got, want = a.Propose(src, m), s.propose(src, m)
	case "beat":
		heard, should := a.Beat(src, m), s.beat(src, m)
		if heard != should {
			t.Fatalf("Beat(%d, %+v) is %v", src, m, heard)
		}
		if heard {
			what = "beat heard"
		}
	default:
		what = "truncate"
		got, want = a.Truncate(), s.truncate()
	}
	if !same(got, want) {
		t.Fatalf("%s of %d %+v: %+v, want %+v", what, src, m, got, want)
	}
	if got.Sends != nil {
		what += " sent"
	}
	if got.Recs != nil {
		what += " recorded"
	}
	return what, got
}

// shapes are the configurations of the long runs: the least and the greatest window, and few ballots and slots too.
func shapes() []api.Config {
	tight := small()
	tight.MaxNum, tight.MaxSlot, tight.Window = 3, 9, 3
	long := wide()
	long.MaxSlot = 200
	one := small()
	one.F, one.Window, one.Every = 2, 1, 1
	return []api.Config{small(), narrow(), wide(), tight, long, one}
}

// The acceptor and the second one answer alike, and are alike behind each call.
func TestSecond(t *testing.T) {
	seen := map[string]int{}
	for at, c := range shapes() {
		for run := range 40 {
			d := &dice{uint64(100*at + run)}
			a, s := madeOf(t, c), &second{c: c, marks: make([]uint64, 2*c.F+1)}
			for range 150 {
				what, _ := play(t, d, a, s)
				seen[what]++
				if !same(a.State(), s.state()) || !same(a.Records(), s.records()) || a.Low() != s.low() {
					t.Fatalf("behind %s: %+v, want %+v", what, a.State(), s.state())
				}
			}
		}
	}
	for _, what := range []string{"prepare", "prepare sent", "prepare sent recorded", "propose", "propose sent", "propose sent recorded", "beat", "beat heard", "truncate", "truncate recorded"} {
		if seen[what] < 50 {
			t.Errorf("%q came up %d times", what, seen[what])
		}
	}
}

// Recover takes any list of records that an acceptor may write as the second one does, and refuses at the first that none writes.
func TestSecondRecover(t *testing.T) {
	refused := 0
	for at, c := range shapes() {
		for run := range 300 {
			d := &dice{uint64(1000*at + run)}
			s := &second{c: c, marks: make([]uint64, 2*c.F+1)}
			var recs []api.Record
			bad := -1
			for range d.below(25) {
				kind := one(d, api.RPromise, api.RVote, api.RVote, api.RVote, api.RLow, api.RStart, api.RCheck)
				r := api.Record{Kind: kind, Bal: d.ballot(c, one(d, s.max(), bal(1, 1))), Slot: d.slot(c, s.low()), Batch: d.batch()}
				if !writable(c, r) {
					if d.below(4) > 0 {
						continue
					}
					if bad < 0 {
						bad = len(recs)
					}
				}
				recs = append(recs, r)
				if bad < 0 {
					s.recs = append(s.recs, r)
				}
			}
			a, err := acceptor.Recover(c, d.below(3), recs)
			if bad >= 0 {
				refused++
				isFault(t, "a wrong record", err, api.ErrAcceptorRecord, 2+bad)
			} else if err != nil || !same(a.State(), s.state()) {
				t.Fatalf("%+v: %+v %v, want %+v", recs, a.State(), err, s.state())
			}
		}
	}
	if refused < 100 || refused > 1200 {
		t.Errorf("%d of 1800 were refused", refused)
	}
}

// writable tells whether a record is none that Recover refuses.
func writable(c api.Config, r api.Record) bool {
	led := 1 <= r.Bal.Num && r.Bal.Num <= c.MaxNum && 0 <= r.Bal.Node && r.Bal.Node <= 2*c.F
	switch r.Kind {
	case api.RPromise:
		return led
	case api.RVote:
		return led && r.Slot < c.MaxSlot && validBatch(r.Batch)
	case api.RLow:
		return r.Slot <= c.MaxSlot
	}
	return true
}
