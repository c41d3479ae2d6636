package acceptor_test

import (
	"errors"
	"reflect"
	"testing"

	"quorum/acceptor"
	"quorum/api"
)

// small is the configuration of the chapter's examples: three replicas, a window of four slots.
func small() api.Config {
	return api.Config{F: 1, MaxBatch: 4, Delay: 0, Window: 4, Every: 2, Beat: 3, Epoch: 20, EpochMax: 80, MaxNum: 100, MaxSlot: 1000}
}

// narrow is a configuration with every field at its least.
func narrow() api.Config {
	return api.Config{F: 1, MaxBatch: 1, Delay: 0, Window: 1, Every: 1, Beat: 1, Epoch: 1, EpochMax: 1, MaxNum: 1, MaxSlot: 1}
}

// wide is a configuration with every field at its greatest.
func wide() api.Config {
	return api.Config{F: 3, MaxBatch: 8, Delay: 1000, Window: 8, Every: 8, Beat: 1000, Epoch: 10000, EpochMax: 100000, MaxNum: 1 << 40, MaxSlot: 1 << 40}
}

func bal(num uint64, node int) api.Ballot { return api.Ballot{Num: num, Node: node} }

// empty is the chapter's batch b, five its batch c.
func empty() api.Batch { return api.Batch{} }
func five() api.Batch  { return api.Batch{Stamp: 5} }

// full is a batch with everything in it at its greatest.
func full() api.Batch {
	b := api.Batch{Stamp: api.MaxTick}
	for range api.MaxReqs {
		b.Reqs = append(b.Reqs, api.Request{Client: 1<<64 - 1, Seq: 1<<64 - 1, Cmd: make([]byte, api.MaxCmd)})
	}
	return b
}

// two is a batch of two requests, the second with no command.
func two() api.Batch {
	return api.Batch{Stamp: 7, Reqs: []api.Request{{Client: 300, Seq: 1, Cmd: []byte{1, 2}}, {Client: 256, Seq: 9}}}
}

// badBatches are none that may be, each for one reason.
func badBatches() map[string]api.Batch {
	with := func(r api.Request) api.Batch {
		b := two()
		b.Reqs[1] = r
		return b
	}
	first := two()
	first.Reqs[0].Seq = 0
	return map[string]api.Batch{
		"a stamp past the last tick":      {Stamp: api.MaxTick + 1},
		"the greatest stamp":              {Stamp: 1<<64 - 1},
		"nine requests":                   {Reqs: append(full().Reqs, api.Request{Client: 256, Seq: 1})},
		"the last replica's address":      with(api.Request{Client: 2, Seq: 1}),
		"nobody's address":                with(api.Request{Client: 255, Seq: 1}),
		"client 0":                        with(api.Request{Seq: 1}),
		"number 0":                        with(api.Request{Client: 256}),
		"a command of one byte too many":  with(api.Request{Client: 256, Seq: 1, Cmd: make([]byte, api.MaxCmd+1)}),
		"a wrong request ahead of a good": first,
	}
}

// made gives a new acceptor of the chapter's configuration.
func made(t testing.TB) *acceptor.Acceptor {
	t.Helper()
	return madeOf(t, small())
}

func madeOf(t testing.TB, c api.Config) *acceptor.Acceptor {
	t.Helper()
	a, err := acceptor.New(c, 0)
	if a == nil || err != nil {
		t.Fatalf("New(%+v): %v", c, err)
	}
	return a
}

// recovered gives the acceptor of these records.
func recovered(t testing.TB, c api.Config, recs ...api.Record) *acceptor.Acceptor {
	t.Helper()
	a, err := acceptor.Recover(c, 1, recs)
	if a == nil || err != nil {
		t.Fatalf("Recover(%v): %v", recs, err)
	}
	return a
}

// same is equality to the last bit: nil is not an empty list.
func same(a, b any) bool { return reflect.DeepEqual(a, b) }

// isStep wants just that answer.
func isStep(t testing.TB, what string, got, want api.Step) {
	t.Helper()
	if !same(got, want) {
		t.Errorf("%s: %+v, want %+v", what, got, want)
	}
}

// isNothing wants an empty answer, and the acceptor as it was.
func isNothing(t testing.TB, what string, a *acceptor.Acceptor, call func() api.Step) {
	t.Helper()
	was := a.State()
	isStep(t, what, call(), api.Step{})
	if !same(a.State(), was) {
		t.Errorf("%s: it is %+v now, it was %+v", what, a.State(), was)
	}
}

// isState wants just that state.
func isState(t testing.TB, what string, a *acceptor.Acceptor, want api.AcceptorState) {
	t.Helper()
	if got := a.State(); !same(got, want) {
		t.Errorf("%s: %+v, want %+v", what, got, want)
	}
	if a.Low() != want.Low {
		t.Errorf("%s: Low is %d, want %d", what, a.Low(), want.Low)
	}
}

// isFault wants a fault of this layer with just that number and place.
func isFault(t testing.TB, what string, err error, why api.Errno, at int) {
	t.Helper()
	f, ok := err.(*api.Fault)
	if !ok || f == nil {
		t.Errorf("%s: %v is no fault, want %d at %d", what, err, why, at)
		return
	}
	if f.Layer != "acceptor" || f.At != at || f.Err != error(why) || !errors.Is(err, why) {
		t.Errorf("%s: refused with %v, want %d at %d", what, err, why, at)
	}
}

func prepare(a *acceptor.Acceptor, src int, b api.Ballot) api.Step {
	return a.Prepare(api.Addr(src), api.Msg{Kind: api.KPrepare, Bal: b})
}

func propose(a *acceptor.Acceptor, src int, b api.Ballot, slot uint64, batch api.Batch) api.Step {
	return a.Propose(api.Addr(src), api.Msg{Kind: api.KPropose, Bal: b, Slot: slot, Batch: batch})
}

func beat(a *acceptor.Acceptor, src int, slot uint64) bool {
	return a.Beat(api.Addr(src), api.Msg{Kind: api.KBeat, Slot: slot})
}

func rPromise(b api.Ballot) api.Record { return api.Record{Kind: api.RPromise, Bal: b} }
func rLow(slot uint64) api.Record      { return api.Record{Kind: api.RLow, Slot: slot} }
func rVote(b api.Ballot, slot uint64, batch api.Batch) api.Record {
	return api.Record{Kind: api.RVote, Bal: b, Slot: slot, Batch: batch}
}

func vote(slot uint64, b api.Ballot, batch api.Batch) api.Vote {
	return api.Vote{Slot: slot, Bal: b, Batch: batch}
}

// promised is the step with a promise: with its record, or as told again.
func promised(to int, b api.Ballot, low uint64, recorded bool, votes ...api.Vote) api.Step {
	s := api.Step{Sends: []api.Send{{To: api.Addr(to), Msg: api.Msg{Kind: api.KPromise, Bal: b, Low: low, Votes: votes}}}}
	if recorded {
		s.Recs = []api.Record{rPromise(b)}
	}
	return s
}

// accepted is the step with a vote among so many replicas: with its record, or as told again.
func accepted(nodes int, b api.Ballot, slot uint64, batch api.Batch, recorded bool) api.Step {
	var s api.Step
	if recorded {
		s.Recs = []api.Record{rVote(b, slot, batch)}
	}
	for n := range nodes {
		s.Sends = append(s.Sends, api.Send{To: api.Addr(n), Msg: api.Msg{Kind: api.KAccept, Bal: b, Slot: slot, Batch: batch}})
	}
	return s
}

// dice gives numbers that look like any, the same ones in every run.
type dice struct{ state uint64 }

func (d *dice) next() uint64 {
	d.state = d.state*6364136223846793005 + 1442695040888963407
	return d.state ^ d.state>>29
}

// below gives a number from 0 to n-1.
func (d *dice) below(n int) int { return int(d.next() >> 3 % uint64(n)) }

func one[E any](d *dice, list ...E) E { return list[d.below(len(list))] }
