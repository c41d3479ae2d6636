package learner_test

import (
	"errors"
	"reflect"
	"testing"

	"quorum/api"
	"quorum/learner"
)

// small is a configuration of three replicas with a hundred slots, as in the chapter's examples.
func small() api.Config {
	return api.Config{F: 1, MaxBatch: 2, Delay: 5, Window: 4, Every: 2, Beat: 3, Epoch: 20, EpochMax: 80, MaxNum: 50, MaxSlot: 100}
}

// narrow is a configuration with every field at its least.
func narrow() api.Config {
	return api.Config{F: 1, MaxBatch: 1, Delay: 0, Window: 1, Every: 1, Beat: 1, Epoch: 1, EpochMax: 1, MaxNum: 1, MaxSlot: 1}
}

// wide is a configuration with every field at its greatest.
func wide() api.Config {
	return api.Config{F: 3, MaxBatch: 8, Delay: 1000, Window: 8, Every: 8, Beat: 1000, Epoch: 10000, EpochMax: 100000, MaxNum: 1 << 40, MaxSlot: 1 << 40}
}

// withF is the small configuration with so many faults borne.
func withF(f int) api.Config {
	c := small()
	c.F = f
	return c
}

func bal(num uint64, node int) api.Ballot { return api.Ballot{Num: num, Node: node} }

func req(client, seq uint64, cmd ...byte) api.Request {
	return api.Request{Client: client, Seq: seq, Cmd: append([]byte(nil), cmd...)}
}

// batch gives a batch of these requests, of which there may be none.
func batch(stamp uint64, reqs ...api.Request) api.Batch {
	return api.Batch{Stamp: stamp, Reqs: append([]api.Request(nil), reqs...)}
}

// The two unlike batches of the chapter's examples.
func batchB() api.Batch { return batch(3, req(300, 1, 1, 2), req(301, 7), req(300, 2, 9)) }
func batchC() api.Batch { return batch(4, req(300, 1, 1, 2)) }

// fullBatch has everything in it at its greatest.
func fullBatch() api.Batch {
	b := api.Batch{Stamp: api.MaxTick}
	for i := range api.MaxReqs {
		r := api.Request{Client: 1<<64 - 1, Seq: 1<<64 - 1, Cmd: make([]byte, api.MaxCmd)}
		r.Cmd[0] = byte(i)
		b.Reqs = append(b.Reqs, r)
	}
	return b
}

// unlike are batches that are not batchB, each for one reason.
func unlike() map[string]api.Batch {
	b := batchB
	change := func(f func(*api.Batch)) api.Batch {
		x := b()
		f(&x)
		return x
	}
	return map[string]api.Batch{
		"no request":             batch(3),
		"another stamp":          change(func(x *api.Batch) { x.Stamp++ }),
		"another client":         change(func(x *api.Batch) { x.Reqs[1].Client++ }),
		"another number":         change(func(x *api.Batch) { x.Reqs[0].Seq++ }),
		"another command":        change(func(x *api.Batch) { x.Reqs[0].Cmd[1]++ }),
		"a longer command":       change(func(x *api.Batch) { x.Reqs[2].Cmd = []byte{9, 0} }),
		"a command that is gone": change(func(x *api.Batch) { x.Reqs[2].Cmd = nil }),
		"a command more":         change(func(x *api.Batch) { x.Reqs[1].Cmd = []byte{0} }),
		"another order":          change(func(x *api.Batch) { x.Reqs[0], x.Reqs[1] = x.Reqs[1], x.Reqs[0] }),
		"a request less":         change(func(x *api.Batch) { x.Reqs = x.Reqs[:2] }),
		"a request more":         change(func(x *api.Batch) { x.Reqs = append(x.Reqs, x.Reqs[2]) }),
		"the first is missing":   change(func(x *api.Batch) { x.Reqs = x.Reqs[1:] }),
	}
}

// badBatches are none that may be, each for one reason.
func badBatches() map[string]api.Batch {
	list := map[string]api.Batch{
		"a stamp past the last tick": {Stamp: api.MaxTick + 1},
		"the greatest stamp":         {Stamp: 1<<64 - 1},
		"nine requests":              {Reqs: append(fullBatch().Reqs, req(256, 1))},
	}
	for what, r := range map[string]api.Request{
		"client 0":                       req(0, 1),
		"the last replica's address":     req(2, 1),
		"nobody's address":               req(255, 1),
		"number 0":                       req(256, 0),
		"a command of one byte too many": {Client: 256, Seq: 1, Cmd: make([]byte, api.MaxCmd+1)},
		"the empty request":              {},
	} {
		list[what] = batch(1, r, req(256, 1))
		list[what+" at the end"] = batch(1, req(256, 1), req(257, 1), r)
	}
	return list
}

// badBallots are none under which a replica of small() votes.
func badBallots() map[string]api.Ballot {
	return map[string]api.Ballot{
		"none":                    bal(0, 0),
		"number 0":                bal(0, 1),
		"a number too high":       bal(51, 0),
		"a number far too high":   bal(1<<64-1, 0),
		"a replica that is none":  bal(7, 3),
		"a replica below all":     bal(7, -1),
		"a replica far above all": bal(7, 1<<32),
	}
}

func madeOf(t testing.TB, c api.Config, low uint64) *learner.Learner {
	t.Helper()
	l, err := learner.New(c, low)
	if l == nil || err != nil {
		t.Fatalf("New(%+v, %d): %v", c, low, err)
	}
	return l
}

func made(t testing.TB) *learner.Learner {
	t.Helper()
	return madeOf(t, small(), 0)
}

func accept(b api.Ballot, slot uint64, x api.Batch) api.Msg {
	return api.Msg{Kind: api.KAccept, Bal: b, Slot: slot, Batch: x}
}

func tally(slot uint64, b api.Ballot, from api.NodeSet, x api.Batch, done bool) api.LearnerTally {
	return api.LearnerTally{Slot: slot, Bal: b, From: from, Batch: x, Done: done}
}

func state(low uint64, tallies ...api.LearnerTally) api.LearnerState {
	return api.LearnerState{Low: low, Tallies: tallies}
}

// same is equality to the last bit: nil is not an empty list.
func same(a, b any) bool { return reflect.DeepEqual(a, b) }

// takes wants a message to change something.
func takes(t testing.TB, what string, l *learner.Learner, src api.Addr, m api.Msg) {
	t.Helper()
	was := l.State()
	if !l.Accept(src, m) || same(l.State(), was) {
		t.Errorf("%s: %d's %+v is not taken", what, src, m)
	}
}

// leaves wants a message to change nothing.
func leaves(t testing.TB, what string, l *learner.Learner, src api.Addr, m api.Msg) {
	t.Helper()
	was := l.State()
	if l.Accept(src, m) {
		t.Errorf("%s: %d's %+v is taken", what, src, m)
	}
	isState(t, what, l, was)
}

func isState(t testing.TB, what string, l *learner.Learner, want api.LearnerState) {
	t.Helper()
	if got := l.State(); !same(got, want) {
		t.Errorf("%s: %+v, want %+v", what, got, want)
	}
	if l.Low() != want.Low {
		t.Errorf("%s: Low is %d, want %d", what, l.Low(), want.Low)
	}
}

func isDecided(t testing.TB, what string, l *learner.Learner, slot uint64, want api.Batch) {
	t.Helper()
	if b, ok := l.Decided(slot); !ok || !same(b, want) {
		t.Errorf("%s: slot %d: %+v %v, want %+v", what, slot, b, ok, want)
	}
}

func isOpen(t testing.TB, what string, l *learner.Learner, slot uint64) {
	t.Helper()
	if b, ok := l.Decided(slot); ok || !same(b, api.Batch{}) {
		t.Errorf("%s: slot %d: %+v %v, want nothing", what, slot, b, ok)
	}
}

// isFault wants a fault of this layer with just that behind it, and that place.
func isFault(t testing.TB, what string, l *learner.Learner, err error, why error, at int) {
	t.Helper()
	if l != nil {
		t.Errorf("%s: a learner beside a refusal", what)
	}
	f, ok := err.(*api.Fault)
	if !ok || f == nil {
		t.Errorf("%s: %v is no fault, want %v at %d", what, err, why, at)
		return
	}
	if f.Layer != "learner" || f.At != at || !same(f.Err, why) || !errors.Is(err, f.Err) {
		t.Errorf("%s: refused with %v, want %v at %d", what, err, why, at)
	}
}

// below tells whether a ballot is below another.
func below(a, b api.Ballot) bool { return a.Num < b.Num || a.Num == b.Num && a.Node < b.Node }

// dice gives numbers that look like any, the same ones in every run.
type dice struct{ state uint64 }

func (d *dice) next() uint64 {
	d.state = d.state*6364136223846793005 + 1442695040888963407
	return d.state ^ d.state>>29
}

// below gives a number from 0 to n-1.
func (d *dice) below(n int) int { return int(d.next() >> 3 % uint64(n)) }

func one[E any](d *dice, list ...E) E { return list[d.below(len(list))] }
