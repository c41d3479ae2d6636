package replica_test

import (
	"errors"
	"reflect"
	"testing"

	"quorum/api"
	"quorum/replica"
	"quorum/session"
	"quorum/xfer"
)

const most = 1<<64 - 1

// small is the configuration of the chapter's examples.
func small() api.Config {
	return api.Config{F: 1, MaxBatch: 2, Delay: 0, Window: 4, Every: 2, Beat: 5, Epoch: 10, EpochMax: 40, MaxNum: 100, MaxSlot: 1000}
}

// narrow is a configuration with every field at its least.
func narrow() api.Config {
	return api.Config{F: 1, MaxBatch: 1, Delay: 0, Window: 1, Every: 1, Beat: 1, Epoch: 1, EpochMax: 1, MaxNum: 1, MaxSlot: 1}
}

// wide is a configuration with every field at its greatest.
func wide() api.Config {
	return api.Config{F: 3, MaxBatch: 8, Delay: 1000, Window: 8, Every: 8, Beat: 1000, Epoch: 10000, EpochMax: 100000, MaxNum: 1 << 40, MaxSlot: 1 << 40}
}

// with is the small configuration with a change.
func with(change func(c *api.Config)) api.Config {
	c := small()
	change(&c)
	return c
}

// accounts are those of all machines here.
func accounts() []api.Account {
	return []api.Account{{ID: 1, Owner: 300, Balance: 100, Cap: 500}, {ID: 2, Owner: 301, Balance: 0, Cap: 500}}
}

// transfer is the command that moves so much from account 1 to account 2.
func transfer(amount byte) []byte { return []byte{3, 1, 2, amount} }

// balance is the command that asks what account 2 has.
func balance() []byte { return []byte{12, 2} }

func bal(num uint64, node int) api.Ballot { return api.Ballot{Num: num, Node: node} }

func req(client, seq uint64, cmd ...byte) api.Request {
	return api.Request{Client: client, Seq: seq, Cmd: append([]byte(nil), cmd...)}
}

// batch gives a batch of these requests, of which there may be none.
func batch(stamp uint64, reqs ...api.Request) api.Batch {
	return api.Batch{Stamp: stamp, Reqs: append([]api.Request(nil), reqs...)}
}

func request(seq uint64, cmd ...byte) api.Msg {
	return api.Msg{Kind: api.KRequest, Seq: seq, Cmd: append([]byte(nil), cmd...)}
}

func prepare(b api.Ballot) api.Msg { return api.Msg{Kind: api.KPrepare, Bal: b} }

func promise(b api.Ballot, low uint64, votes ...api.Vote) api.Msg {
	return api.Msg{Kind: api.KPromise, Bal: b, Low: low, Votes: votes}
}

func lead(b api.Ballot, low uint64) api.Msg { return api.Msg{Kind: api.KLead, Bal: b, Low: low} }

func propose(b api.Ballot, slot uint64, x api.Batch) api.Msg {
	return api.Msg{Kind: api.KPropose, Bal: b, Slot: slot, Batch: x}
}

func accept(b api.Ballot, slot uint64, x api.Batch) api.Msg {
	return api.Msg{Kind: api.KAccept, Bal: b, Slot: slot, Batch: x}
}

func beat(b api.Ballot, slot uint64, suspect bool) api.Msg {
	return api.Msg{Kind: api.KBeat, Bal: b, Slot: slot, Suspect: suspect}
}

func want(slot, index uint64) api.Msg { return api.Msg{Kind: api.KWant, Slot: slot, Index: index} }

// sent is one message to an address.
func sent(to api.Addr, m api.Msg) []api.Send { return []api.Send{{To: to, Msg: m}} }

// toAll is a message to each of n replicas.
func toAll(n int, m api.Msg) []api.Send {
	var list []api.Send
	for to := range n {
		list = append(list, api.Send{To: api.Addr(to), Msg: m})
	}
	return list
}

// replied is a reply without data on its way to a client.
func replied(to api.Addr, seq, stamp uint64) []api.Send {
	return sent(to, api.Msg{Kind: api.KReply, Seq: seq, Stamp: stamp})
}

// same is equality to the last bit: nil is not an empty list.
func same(a, b any) bool { return reflect.DeepEqual(a, b) }

func begunOf(t testing.TB, c api.Config, self int, now uint64) *replica.Replica {
	t.Helper()
	r, err := replica.New(c, self, accounts(), now)
	if r == nil || err != nil {
		t.Fatalf("New(%+v, %d, %d): %v", c, self, now, err)
	}
	return r
}

// begun is a replica of the chapter's examples, begun at 0.
func begun(t testing.TB, self int) *replica.Replica {
	t.Helper()
	return begunOf(t, small(), self, 0)
}

func recoveredOf(t testing.TB, c api.Config, self int, recs []api.Record, now uint64) *replica.Replica {
	t.Helper()
	r, err := replica.Recover(c, self, accounts(), recs, now)
	if r == nil || err != nil {
		t.Fatalf("Recover(%+v, %d, %+v, %d): %v", c, self, recs, now, err)
	}
	return r
}

// act takes the next action without a packet.
func act(r *replica.Replica, now uint64) api.ReplicaOut { return r.Act(api.ReplicaIn{Now: now}) }

// turn takes actions without a packet until that one is next.
func turn(t testing.TB, r *replica.Replica, action int, now uint64) {
	t.Helper()
	for range api.Actions {
		if r.Action() == action {
			return
		}
		act(r, now)
	}
	t.Fatalf("action %d is never next", action)
}

// hear takes a packet, wherever the turns are.
func hear(t testing.TB, r *replica.Replica, now uint64, src api.Addr, m api.Msg) api.ReplicaOut {
	t.Helper()
	turn(t, r, api.ActPacket, now)
	return r.Act(api.ReplicaIn{Now: now, Has: true, Src: src, Msg: m})
}

// does takes an action without a packet, wherever the turns are.
func does(t testing.TB, r *replica.Replica, action int, now uint64) api.ReplicaOut {
	t.Helper()
	turn(t, r, action, now)
	return act(r, now)
}

// round takes all ten actions, the first with a packet, if its Kind is not 0.
func round(t testing.TB, r *replica.Replica, now uint64, src api.Addr, m api.Msg) [api.Actions]api.ReplicaOut {
	t.Helper()
	var out [api.Actions]api.ReplicaOut
	for i := range out {
		if r.Action() != i {
			t.Fatalf("action %d is next, want %d", r.Action(), i)
		}
		out[i] = r.Act(api.ReplicaIn{Now: now, Has: m.Kind != 0, Src: src, Msg: m})
	}
	return out
}

// outs are the answers of a round that are not nothing, by action.
type outs map[int]api.ReplicaOut

// isRound wants just these answers of a round.
func isRound(t testing.TB, what string, got [api.Actions]api.ReplicaOut, want outs) {
	t.Helper()
	for i := range got {
		isOut(t, what, got[i], want[i])
	}
}

func isOut(t testing.TB, what string, got, want api.ReplicaOut) {
	t.Helper()
	if !same(got, want) {
		t.Errorf("%s: %+v, want %+v", what, got, want)
	}
}

func isState(t testing.TB, what string, r *replica.Replica, want api.ReplicaState) {
	t.Helper()
	if got := r.State(); !same(got, want) {
		t.Errorf("%s: %+v, want %+v", what, got, want)
	}
	if r.Action() != want.Action {
		t.Errorf("%s: Action is %d, want %d", what, r.Action(), want.Action)
	}
}

// changes wants an answer, and the state to be changed so and not otherwise; the turn is one on.
func changes(t testing.TB, what string, r *replica.Replica, in api.ReplicaIn, want api.ReplicaOut, change func(*api.ReplicaState)) {
	t.Helper()
	s := r.State()
	s.Action = (s.Action + 1) % api.Actions
	s.Now = max(s.Now, in.Now)
	change(&s)
	isOut(t, what, r.Act(in), want)
	isState(t, what, r, s)
}

// silent wants nothing to come of a packet.
func silent(t testing.TB, what string, r *replica.Replica, now uint64, src api.Addr, m api.Msg) {
	t.Helper()
	turn(t, r, api.ActPacket, now)
	changes(t, what, r, api.ReplicaIn{Now: now, Has: true, Src: src, Msg: m}, api.ReplicaOut{}, func(*api.ReplicaState) {})
}

// leading is replica 0 of a configuration, leading {1 0} from slot 0 on, at its first action.
func leading(t testing.TB, c api.Config) *replica.Replica {
	t.Helper()
	r := begunOf(t, c, 0, 0)
	round(t, r, 0, 0, api.Msg{})
	for n := range api.Addr(c.F + 1) {
		round(t, r, 0, n, promise(bal(1, 0), 0))
	}
	if s := r.State().Proposer; s.Phase != api.Leading || s.Next != 0 {
		t.Fatalf("it does not lead: %+v", s)
	}
	return r
}

// decide lets a replica hear that a batch is decided in a slot under {1 0}; it has not run it then.
func decide(t testing.TB, r *replica.Replica, now, slot uint64, x api.Batch) {
	t.Helper()
	for n := range api.Addr(r.Quorum()) {
		hear(t, r, now, n, accept(bal(1, 0), slot, x))
	}
}

// ran lets a replica run a batch as its next one.
func ran(t testing.TB, r *replica.Replica, now uint64, x api.Batch) api.ReplicaOut {
	t.Helper()
	slot := r.State().Machine.Slot
	decide(t, r, now, slot, x)
	out := does(t, r, api.ActRun, now)
	if !out.Ran || out.Slot != slot || !same(out.Batch, x) {
		t.Fatalf("slot %d does not run: %+v", slot, out)
	}
	return out
}

// machineOf gives a machine that has run these batches.
func machineOf(t testing.TB, batches ...api.Batch) *session.Machine {
	t.Helper()
	m, err := session.New(accounts())
	if err != nil {
		t.Fatal(err)
	}
	for _, b := range batches {
		if _, err := m.Batch(b); err != nil {
			t.Fatal(err)
		}
	}
	return m
}

// snapshotOf gives the snapshot of the machine that has run these batches.
func snapshotOf(t testing.TB, batches ...api.Batch) []byte {
	t.Helper()
	return packed(t, machineOf(t, batches...))
}

func packed(t testing.TB, m *session.Machine) []byte {
	t.Helper()
	data, err := m.Snapshot()
	if err != nil {
		t.Fatal(err)
	}
	return data
}

// snapshotAt gives a snapshot of an image with that slot, and of sessions besides.
func snapshotAt(t testing.TB, slot uint64, sessions ...api.Session) []byte {
	t.Helper()
	img := machineOf(t).Image()
	img.Slot, img.Sessions = slot, sessions
	for _, s := range sessions {
		img.Now = max(img.Now, s.Stamp)
	}
	m, err := session.Restore(img)
	if err != nil {
		t.Fatal(err)
	}
	return packed(t, m)
}

// bytesOf gives n bytes.
func bytesOf(n int) []byte {
	b := make([]byte, n)
	for i := range b {
		b[i] = byte(i*7 + i/256*13 + i/1024*31)
	}
	return b
}

// supplied gives the messages with all chunks of what a replica holds for the snapshot of a slot.
func supplied(t testing.TB, slot uint64, data []byte) []api.Msg {
	t.Helper()
	s, err := xfer.NewSupplier(wide(), 1)
	if err != nil || s.Put(slot, data) != nil {
		t.Fatalf("%d bytes are not supplied for slot %d", len(data), slot)
	}
	var list []api.Msg
	for i := range s.State().Count {
		list = append(list, s.Want(0, want(slot, i))[0].Msg)
	}
	return list
}

func check(slot uint64, data []byte) api.Record {
	return api.Record{Kind: api.RCheck, Slot: slot, Data: data}
}

// isFault wants a fault of this layer with just that behind it, and that place.
func isFault(t testing.TB, what string, r *replica.Replica, err error, why error, at int) {
	t.Helper()
	if r != nil {
		t.Errorf("%s: a replica beside a refusal", what)
	}
	f, ok := err.(*api.Fault)
	if !ok || f == nil {
		t.Errorf("%s: %v is no fault, want %v at %d", what, err, why, at)
		return
	}
	if f.Layer != "replica" || f.At != at || !same(f.Err, why) || !errors.Is(err, f.Err) {
		t.Errorf("%s: refused with %v, want %v at %d", what, err, why, at)
	}
}

// below tells whether a ballot is below another.
func below(a, b api.Ballot) bool { return a.Num < b.Num || a.Num == b.Num && a.Node < b.Node }

// strangers are addresses of no replica, where there are n.
func strangers(n int) []api.Addr {
	return []api.Addr{api.Addr(n), api.Addr(n + 1), 7, 100, 255, 256, 300, 1 << 32, 1<<32 + 1, 1 << 63, 1<<63 + 1, most - 1, most}
}

// badBallots are none that a replica of small() leads.
func badBallots() map[string]api.Ballot {
	return map[string]api.Ballot{
		"none":                    bal(0, 0),
		"number 0":                bal(0, 1),
		"a number too high":       bal(101, 1),
		"a number far too high":   bal(most, 1),
		"a replica that is none":  bal(7, 3),
		"a replica below all":     bal(7, -1),
		"a replica far above all": bal(7, 1<<32),
	}
}

// dice gives numbers that look like any, the same ones in every run.
type dice struct{ state uint64 }

func (d *dice) next() uint64 {
	d.state = d.state*6364136223846793005 + 1442695040888963407
	return d.state ^ d.state>>29
}

// below gives a number from 0 to n-1.
func (d *dice) below(n int) int { return int(d.next() >> 3 % uint64(n)) }

func one[E any](d *dice, list ...E) E { return list[d.below(len(list))] }
