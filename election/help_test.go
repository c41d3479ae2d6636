package election_test

import (
	"errors"
	"reflect"
	"testing"

	"quorum/api"
	"quorum/election"
)

// small is the configuration of the chapter's examples.
func small() api.Config {
	return api.Config{F: 1, MaxBatch: 2, Delay: 0, Window: 4, Every: 2, Beat: 5, Epoch: 10, EpochMax: 30, MaxNum: 2, MaxSlot: 1000}
}

// narrow is a configuration with every field at its least.
func narrow() api.Config {
	return api.Config{F: 1, MaxBatch: 1, Delay: 0, Window: 1, Every: 1, Beat: 1, Epoch: 1, EpochMax: 1, MaxNum: 1, MaxSlot: 1}
}

// wide is a configuration with every field at its greatest.
func wide() api.Config {
	return api.Config{F: 3, MaxBatch: 8, Delay: 1000, Window: 8, Every: 8, Beat: 1000, Epoch: 10000, EpochMax: 100000, MaxNum: 1 << 40, MaxSlot: 1 << 40}
}

// withF is the small configuration with so many faults borne, and many ballots.
func withF(f int) api.Config {
	c := small()
	c.F, c.MaxNum = f, 1000
	return c
}

// withEpochs is withF with epochs of these lengths.
func withEpochs(f int, epoch, most uint64) api.Config {
	c := withF(f)
	c.Epoch, c.EpochMax = epoch, most
	return c
}

func bal(num uint64, node int) api.Ballot { return api.Ballot{Num: num, Node: node} }

func req(client, seq uint64, cmd ...byte) api.Request {
	return api.Request{Client: client, Seq: seq, Cmd: append([]byte(nil), cmd...)}
}

// list gives these requests, nil if there are none.
func list(reqs ...api.Request) []api.Request { return append([]api.Request(nil), reqs...) }

// many gives n requests of as many clients, from that one on.
func many(client uint64, n int) []api.Request {
	var reqs []api.Request
	for i := range uint64(n) {
		reqs = append(reqs, req(client+i, 1, byte(i)))
	}
	return reqs
}

func ran(reqs ...api.Request) api.Batch { return api.Batch{Reqs: reqs} }

// badRequests are none that a client may send, each for one reason.
func badRequests() map[string]api.Request {
	return map[string]api.Request{
		"client 255":       req(255, 1),
		"a replica":        req(0, 1),
		"number 0":         req(300, 0),
		"701 bytes":        req(300, 1, make([]byte, 701)...),
		"nothing":          {},
		"thousands":        req(300, 1, make([]byte, 5000)...),
		"all wrong":        req(255, 0, make([]byte, 701)...),
		"number 0, high":   req(1<<64-1, 0),
		"client 1, no cmd": req(1, 1<<64-1),
	}
}

// badBallots are none that a heartbeat of small() may tell.
func badBallots() map[string]api.Ballot {
	return map[string]api.Ballot{
		"none":                    bal(0, 0),
		"number 0":                bal(0, 1),
		"a number too high":       bal(3, 0),
		"a number far too high":   bal(1<<64-1, 0),
		"a replica that is none":  bal(2, 3),
		"a replica below all":     bal(2, -1),
		"a replica far above all": bal(2, 1<<32),
	}
}

func madeOf(t testing.TB, c api.Config, self int, now uint64) *election.Election {
	t.Helper()
	e, err := election.New(c, self, now)
	if e == nil || err != nil {
		t.Fatalf("New(%+v, %d, %d): %v", c, self, now, err)
	}
	return e
}

// made is replica 0 of the small configuration, begun at 5.
func made(t testing.TB) *election.Election {
	t.Helper()
	return madeOf(t, small(), 0, 5)
}

// asked lets requests wait, each of which must be taken.
func asked(t testing.TB, e *election.Election, reqs ...api.Request) {
	t.Helper()
	for _, r := range reqs {
		was := len(e.Waiting())
		if !e.Request(r) || len(e.Waiting()) != was+1 {
			t.Fatalf("%d %d does not wait", r.Client, r.Seq)
		}
	}
}

func beat(view api.Ballot, suspect bool) api.Msg {
	return api.Msg{Kind: api.KBeat, Bal: view, Suspect: suspect}
}

// same is equality to the last bit: nil is not an empty list.
func same(a, b any) bool { return reflect.DeepEqual(a, b) }

// isState wants all of it, and that what is told in pieces is the same.
func isState(t testing.TB, what string, e *election.Election, self int, want api.ElectionState) {
	t.Helper()
	if got := e.State(); !same(got, want) {
		t.Errorf("%s: %+v, want %+v", what, got, want)
	}
	if e.View() != want.View {
		t.Errorf("%s: View %v, want %v", what, e.View(), want.View)
	}
	if e.Suspecting() != (want.Suspects>>self&1 == 1) {
		t.Errorf("%s: Suspecting is %v, of %b", what, e.Suspecting(), want.Suspects)
	}
	if got, all := e.Waiting(), append(list(want.Prev...), want.This...); !same(got, all) {
		t.Errorf("%s: Waiting %+v, want %+v", what, got, all)
	}
}

// stays wants a call to answer false and to change nothing.
func stays(t testing.TB, what string, e *election.Election, call func() bool) {
	t.Helper()
	was := e.State()
	if call() {
		t.Errorf("%s: true", what)
	}
	if got := e.State(); !same(got, was) {
		t.Errorf("%s: %+v, was %+v", what, got, was)
	}
}

// isFault wants a fault of this layer with just that behind it, and that place.
func isFault(t testing.TB, what string, e *election.Election, err error, why error, at int) {
	t.Helper()
	if e != nil {
		t.Errorf("%s: an election beside a refusal", what)
	}
	f, ok := err.(*api.Fault)
	if !ok || f == nil {
		t.Errorf("%s: %v is no fault, want %v at %d", what, err, why, at)
		return
	}
	if f.Layer != "election" || f.At != at || !same(f.Err, why) || !errors.Is(err, f.Err) {
		t.Errorf("%s: refused with %v, want %v at %d", what, err, why, at)
	}
}

// below tells whether a ballot is below another.
func below(a, b api.Ballot) bool { return a.Num < b.Num || a.Num == b.Num && a.Node < b.Node }

// dice gives numbers that look like any, the same ones in every run.
type dice struct{ state uint64 }

func (d *dice) next() uint64 {
	d.state = d.state*6364136223846793005 + 1442695040888963407
	return d.state ^ d.state>>29
}

// below gives a number from 0 to n-1.
func (d *dice) below(n int) int { return int(d.next() >> 3 % uint64(n)) }

func one[E any](d *dice, list ...E) E { return list[d.below(len(list))] }
