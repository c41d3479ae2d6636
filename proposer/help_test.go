package proposer_test

import (
	"errors"
	"reflect"
	"testing"

	"quorum/api"
	"quorum/proposer"
)

// small is the configuration of the chapter's examples: three replicas, batches of two, a window of four slots.
func small() api.Config {
	return api.Config{F: 1, MaxBatch: 2, Delay: 5, Window: 4, Every: 2, Beat: 3, Epoch: 20, EpochMax: 80, MaxNum: 50, MaxSlot: 100}
}

// narrow is a configuration with every field at its least.
func narrow() api.Config {
	return api.Config{F: 1, MaxBatch: 1, Delay: 0, Window: 1, Every: 1, Beat: 1, Epoch: 1, EpochMax: 1, MaxNum: 1, MaxSlot: 1}
}

// wide is a configuration with every field at its greatest.
func wide() api.Config {
	return api.Config{F: 3, MaxBatch: 8, Delay: 1000, Window: 8, Every: 8, Beat: 1000, Epoch: 10000, EpochMax: 100000, MaxNum: 1 << 40, MaxSlot: 1 << 40}
}

// withF is the small configuration with so many faults borne.
func withF(f int) api.Config {
	c := small()
	c.F = f
	return c
}

func bal(num uint64, node int) api.Ballot { return api.Ballot{Num: num, Node: node} }

func req(client, seq uint64) api.Request { return api.Request{Client: client, Seq: seq} }

// The requests and batches of the chapter's examples.
func r1() api.Request { return req(256, 1) }
func r2() api.Request { return req(256, 2) }
func s1() api.Request { return req(257, 1) }
func batchA() api.Batch {
	return api.Batch{Stamp: 3, Reqs: []api.Request{{Client: 300, Seq: 1, Cmd: []byte{1, 2}}}}
}
func batchB() api.Batch { return api.Batch{Stamp: 4, Reqs: []api.Request{req(300, 2)}} }

// batch gives a batch of these requests, of which there may be none.
func batch(stamp uint64, reqs ...api.Request) api.Batch {
	return api.Batch{Stamp: stamp, Reqs: append([]api.Request(nil), reqs...)}
}

// many gives so many requests, each of its own client.
func many(n int) []api.Request {
	var list []api.Request
	for i := range n {
		list = append(list, api.Request{Client: 1000 + uint64(i), Seq: 1, Cmd: []byte{byte(i)}})
	}
	return list
}

// fullBatch has everything in it at its greatest.
func fullBatch() api.Batch {
	b := api.Batch{Stamp: api.MaxTick}
	for range api.MaxReqs {
		b.Reqs = append(b.Reqs, fullRequest())
	}
	return b
}

func fullRequest() api.Request {
	return api.Request{Client: 1<<64 - 1, Seq: 1<<64 - 1, Cmd: make([]byte, api.MaxCmd)}
}

// badRequests are none that may be, each for one reason.
func badRequests() map[string]api.Request {
	return map[string]api.Request{
		"client 0":                       req(0, 1),
		"the last replica's address":     req(2, 1),
		"nobody's address":               req(255, 1),
		"number 0":                       req(256, 0),
		"a command of one byte too many": {Client: 256, Seq: 1, Cmd: make([]byte, api.MaxCmd+1)},
		"the empty request":              {},
	}
}

// badBatches are none that may be, each for one reason.
func badBatches() map[string]api.Batch {
	list := map[string]api.Batch{
		"a stamp past the last tick": {Stamp: api.MaxTick + 1},
		"the greatest stamp":         {Stamp: 1<<64 - 1},
		"nine requests":              {Reqs: append(fullBatch().Reqs, req(256, 1))},
	}
	for what, r := range badRequests() {
		list[what] = batch(1, r, r1())
		list[what+" at the end"] = batch(1, r1(), s1(), r)
	}
	return list
}

// badBallots are none that a replica of small() leads.
func badBallots() map[string]api.Ballot {
	return map[string]api.Ballot{
		"none":                    bal(0, 0),
		"number 0":                bal(0, 1),
		"a number too high":       bal(51, 0),
		"a number far too high":   bal(1<<64-1, 0),
		"a replica that is none":  bal(7, 3),
		"a replica below all":     bal(7, -1),
		"a replica far above all": bal(7, 1<<32),
	}
}

func madeOf(t testing.TB, c api.Config, self int) *proposer.Proposer {
	t.Helper()
	p, err := proposer.New(c, self)
	if p == nil || err != nil {
		t.Fatalf("New(%+v, %d): %v", c, self, err)
	}
	return p
}

func made(t testing.TB) *proposer.Proposer {
	t.Helper()
	return madeOf(t, small(), 0)
}

// asking gives replica 0's proposer that has begun {5 0}, with these requests.
func asking(t testing.TB, waiting ...api.Request) *proposer.Proposer {
	t.Helper()
	p := made(t)
	p.Enter(bal(5, 0), waiting)
	return p
}

// leading gives one that leads {5 0} from low on, with these votes of replica 1 and requests.
func leading(t testing.TB, c api.Config, low uint64, votes []api.Vote, waiting ...api.Request) *proposer.Proposer {
	t.Helper()
	p := madeOf(t, c, 0)
	p.Enter(bal(5, 0), waiting)
	if !p.Promise(1, promise(bal(5, 0), low, votes...)) {
		t.Fatalf("the promise of 1 is not taken")
	}
	for n := 2; n <= c.F+1; n++ {
		if !p.Promise(api.Addr(n), promise(bal(5, 0), 0)) {
			t.Fatalf("the promise of %d is not taken", n)
		}
	}
	if s := p.Lead(0); len(s.Sends) != 2*c.F+1 {
		t.Fatalf("Lead: %+v", s)
	}
	return p
}

// same is equality to the last bit: nil is not an empty list.
func same(a, b any) bool { return reflect.DeepEqual(a, b) }

func isStep(t testing.TB, what string, got, want api.Step) {
	t.Helper()
	if !same(got, want) {
		t.Errorf("%s: %+v, want %+v", what, got, want)
	}
}

func isState(t testing.TB, what string, p *proposer.Proposer, want api.ProposerState) {
	t.Helper()
	if got := p.State(); !same(got, want) {
		t.Errorf("%s: %+v, want %+v", what, got, want)
	}
}

// isNothing wants an empty answer, and the proposer as it was.
func isNothing(t testing.TB, what string, p *proposer.Proposer, call func() api.Step) {
	t.Helper()
	was := p.State()
	isStep(t, what, call(), api.Step{})
	isState(t, what, p, was)
}

// isFalse wants a no, and the proposer as it was.
func isFalse(t testing.TB, what string, p *proposer.Proposer, call func() bool) {
	t.Helper()
	was := p.State()
	if call() {
		t.Errorf("%s: it is taken", what)
	}
	isState(t, what, p, was)
}

// isFault wants a fault of this layer with just that number and place.
func isFault(t testing.TB, what string, p *proposer.Proposer, err error, why api.Errno, at int) {
	t.Helper()
	if p != nil {
		t.Errorf("%s: a proposer beside a refusal", what)
	}
	f, ok := err.(*api.Fault)
	if !ok || f == nil {
		t.Errorf("%s: %v is no fault, want %d at %d", what, err, why, at)
		return
	}
	if f.Layer != "proposer" || f.At != at || f.Err != error(why) || !errors.Is(err, why) {
		t.Errorf("%s: refused with %v, want %d at %d", what, err, why, at)
	}
}

func toAll(nodes int, m api.Msg) []api.Send {
	var sends []api.Send
	for n := range nodes {
		sends = append(sends, api.Send{To: api.Addr(n), Msg: m})
	}
	return sends
}

// begun is the step with which a ballot begins among so many replicas.
func begun(nodes int, b api.Ballot) api.Step {
	return api.Step{Recs: []api.Record{rStart(b)}, Sends: toAll(nodes, api.Msg{Kind: api.KPrepare, Bal: b})}
}

// led is the step with which phase 2 begins.
func led(nodes int, b api.Ballot, low uint64) api.Step {
	return api.Step{Sends: toAll(nodes, api.Msg{Kind: api.KLead, Bal: b, Low: low})}
}

// proposed is the step with a proposal.
func proposed(nodes int, b api.Ballot, slot uint64, x api.Batch) api.Step {
	return api.Step{Sends: toAll(nodes, api.Msg{Kind: api.KPropose, Bal: b, Slot: slot, Batch: x})}
}

func promise(b api.Ballot, low uint64, votes ...api.Vote) api.Msg {
	return api.Msg{Kind: api.KPromise, Bal: b, Low: low, Votes: votes}
}

func vote(slot uint64, b api.Ballot, x api.Batch) api.Vote {
	return api.Vote{Slot: slot, Bal: b, Batch: x}
}

func rStart(b api.Ballot) api.Record { return api.Record{Kind: api.RStart, Bal: b} }

// below tells whether a ballot is below another.
func below(a, b api.Ballot) bool { return a.Num < b.Num || a.Num == b.Num && a.Node < b.Node }

// dice gives numbers that look like any, the same ones in every run.
type dice struct{ state uint64 }

func (d *dice) next() uint64 {
	d.state = d.state*6364136223846793005 + 1442695040888963407
	return d.state ^ d.state>>29
}

// below gives a number from 0 to n-1.
func (d *dice) below(n int) int { return int(d.next() >> 3 % uint64(n)) }

func one[E any](d *dice, list ...E) E { return list[d.below(len(list))] }
