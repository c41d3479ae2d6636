package acceptor_test

import (
	"testing"

	"quorum/acceptor"
	"quorum/api"
)

// witness has seen all that an acceptor ever sent, over all crashes, and holds P10.9 against it.
type witness struct {
	state    api.AcceptorState // the last one
	promised api.Ballot        // the highest that a KPromise told
	last     map[uint64]api.Vote
	batches  map[api.Ballot]map[uint64]api.Batch
}

func newWitness(a *acceptor.Acceptor) *witness {
	return &witness{state: a.State(), last: map[uint64]api.Vote{}, batches: map[api.Ballot]map[uint64]api.Batch{}}
}

// watch looks at what was answered and at the acceptor behind it.
func (w *witness) watch(t *testing.T, a *acceptor.Acceptor, s api.Step) {
	t.Helper()
	now := a.State()
	if below(now.Max, w.state.Max) || now.Low < w.state.Low {
		t.Fatalf("it falls: %+v behind %+v", now, w.state)
	}
	for n, mark := range now.Marks {
		if mark < w.state.Marks[n] {
			t.Fatalf("mark %d falls", n)
		}
	}
	for _, v := range now.Votes {
		if v.Slot < now.Low || v.Slot >= now.Low+a.Config().Window {
			t.Fatalf("a vote out of the window: %+v", now)
		}
	}
	w.state = now
	for _, send := range s.Sends {
		if send.Msg.Kind == api.KPromise {
			w.watchPromise(t, send.Msg)
		} else {
			w.watchAccept(t, send.Msg)
		}
	}
}

// watchPromise: no vote is forgotten.
func (w *witness) watchPromise(t *testing.T, m api.Msg) {
	t.Helper()
	told := map[uint64]api.Vote{}
	for _, v := range m.Votes {
		told[v.Slot] = v
	}
	for slot, v := range w.last {
		if slot >= m.Low && !same(told[slot], v) {
			t.Fatalf("the promise of %v tells %+v, the last vote was %+v", m.Bal, told[slot], v)
		}
	}
	if below(w.promised, m.Bal) {
		w.promised = m.Bal
	}
}

// watchAccept: none below a promise, and one batch for a ballot and a slot.
func (w *witness) watchAccept(t *testing.T, m api.Msg) {
	t.Helper()
	if below(m.Bal, w.promised) {
		t.Fatalf("%v is accepted behind a promise of %v", m.Bal, w.promised)
	}
	if below(m.Bal, w.last[m.Slot].Bal) {
		t.Fatalf("%v is accepted behind %v", m.Bal, w.last[m.Slot].Bal)
	}
	w.last[m.Slot] = vote(m.Slot, m.Bal, m.Batch)
	if w.batches[m.Bal] == nil {
		w.batches[m.Bal] = map[uint64]api.Batch{}
	}
	if b, ok := w.batches[m.Bal][m.Slot]; ok && !same(b, m.Batch) {
		t.Fatalf("two batches for %v and slot %d", m.Bal, m.Slot)
	}
	w.batches[m.Bal][m.Slot] = m.Batch
}

// Runs in which the acceptor is lost at any moment and one out of its records goes on; now and then the log gets a new base.
func TestP10_9Follows(t *testing.T) {
	for at, c := range shapes() {
		for run := range 40 {
			d := &dice{uint64(500*at + run)}
			a, s := madeOf(t, c), &second{c: c, marks: make([]uint64, 2*c.F+1)}
			w := newWitness(a)
			var log []api.Record
			for range 200 {
				_, step := play(t, d, a, s)
				log = append(log, step.Recs...)
				w.watch(t, a, step)
				if d.below(10) == 0 {
					log = a.Records()
				}
				if d.below(6) == 0 {
					was := a.State()
					a = recovered(t, c, log...)
					was.Marks = make([]uint64, 2*c.F+1)
					isState(t, "lost and begun again", a, was)
					w.state.Marks = was.Marks
					s.marks = make([]uint64, 2*c.F+1)
				}
			}
		}
	}
}

// Behind every single record of a run the log so far gives the acceptor as it was.
func TestP10_9EachRecord(t *testing.T) {
	a := made(t)
	var log []api.Record
	step := func(s api.Step) {
		t.Helper()
		log = append(log, s.Recs...)
		want := a.State()
		want.Marks = []uint64{0, 0, 0}
		isState(t, "out of the log", recovered(t, small(), log...), want)
		isState(t, "out of a new base", recovered(t, small(), a.Records()...), want)
	}
	step(api.Step{})
	step(prepare(a, 1, bal(1, 1)))
	step(propose(a, 1, bal(1, 1), 0, two()))
	step(propose(a, 1, bal(1, 1), 1, empty()))
	step(propose(a, 2, bal(1, 2), 1, five()))
	step(propose(a, 2, bal(1, 2), 1, five()))
	step(propose(a, 2, bal(1, 2), 5, two()))
	step(prepare(a, 2, bal(1, 2)))
	step(prepare(a, 0, bal(7, 0)))
	beat(a, 0, 5)
	beat(a, 1, 4)
	step(a.Truncate())
	step(propose(a, 0, bal(7, 0), 4, five()))
	step(propose(a, 0, bal(7, 0), 30, five()))
	if len(log) != 9 {
		t.Errorf("%d records", len(log))
	}
}
