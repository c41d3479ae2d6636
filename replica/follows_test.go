package replica_test

import (
	"slices"
	"testing"

	"quorum/api"
	"quorum/replica"
	"quorum/session"
)

// packet is a message on its way.
type packet struct {
	src, to api.Addr
	m       api.Msg
}

// host is one replica, its clock and its log, and what it has ever told others, in all its lives.
type host struct {
	r        *replica.Replica
	clock    uint64
	log      []api.Record
	durable  []api.Record // all that was ever durable
	promised api.Ballot   // the greatest ballot of a promise or a vote that it has sent
	votes    []api.Msg    // its KAccepts, one of each
	marked   uint64       // the greatest mark that it has told
	begun    api.Ballot   // begun in this life
}

// asker is a client: its last request, and whether that is answered.
type asker struct {
	seq  uint64
	cmd  []byte
	done bool
}

// world is a few hosts with clients, and a network that loses, doubles and mixes. It knows the one machine: all batches that have run anywhere, its image behind each, and its replies.
type world struct {
	t       *testing.T
	c       api.Config
	d       *dice
	hosts   []*host
	clients map[api.Addr]*asker
	net     []packet
	machine *session.Machine
	batches []api.Batch
	images  []api.Image
	replies map[[2]uint64]api.Msg // by client and number
	asked   map[[2]uint64][]byte  // the commands of all requests
	calm    bool
	seen    map[string]int
}

func newWorld(t *testing.T, c api.Config, d *dice, seen map[string]int) *world {
	w := &world{t: t, c: c, d: d, clients: map[api.Addr]*asker{}, machine: machineOf(t), replies: map[[2]uint64]api.Msg{}, asked: map[[2]uint64][]byte{}, seen: seen}
	w.images = []api.Image{w.machine.Image()}
	for n := range 2*c.F + 1 {
		w.hosts = append(w.hosts, &host{r: begunOf(t, c, n, 0)})
	}
	for id := range api.Addr(4) {
		w.clients[300+id] = &asker{done: true}
	}
	return w
}

// ask lets a client ask, or ask again.
func (w *world) ask(id api.Addr, again bool) {
	a := w.clients[id]
	if !again {
		a.seq++
		a.cmd, a.done = one(w.d, transfer(1), transfer(2), balance()), false
		w.asked[[2]uint64{uint64(id), a.seq}] = a.cmd
	}
	for n := range w.hosts {
		w.send(id, api.Send{To: api.Addr(n), Msg: request(a.seq, a.cmd...)})
	}
}

// send puts a message into the network; it may be lost or doubled there, but not in calm times.
func (w *world) send(src api.Addr, s api.Send) {
	times := 1
	if !w.calm {
		times = one(w.d, 0, 1, 1, 1, 1, 1, 2)
	}
	for range times {
		w.net = append(w.net, packet{src, s.To, s.Msg})
	}
}

// act lets a host take its next action, and looks at all that comes of it.
func (w *world) act(n int, in api.ReplicaIn) {
	w.t.Helper()
	h := w.hosts[n]
	in.Now = h.clock
	action := h.r.Action()
	out := h.r.Act(in)
	note(w.seen, out)
	w.ran(n, out)
	w.answers(n, out)
	if w.crashes(n, out) {
		return
	}
	if action == api.ActEnter && len(out.Recs) > 0 {
		w.begins(n, out)
	}
	h.log = kept(h.log, out)
	h.durable = append(append(h.durable, out.Recs...), out.Base...)
	for _, s := range out.Sends {
		w.backed(n, action, s.Msg)
		w.send(api.Addr(n), s)
	}
}

// crashes lets a host crash now and then in the midst of an action: records of the answer may be durable or not, a base is whole or not at all, and no message leaves.
func (w *world) crashes(n int, out api.ReplicaOut) bool {
	w.t.Helper()
	h := w.hosts[n]
	busy := len(out.Recs)+len(out.Base) > 0
	if w.calm || !busy && w.d.below(1500) > 0 || w.d.below(30) > 0 {
		return false
	}
	if out.Base == nil {
		out.Recs = out.Recs[:w.d.below(len(out.Recs)+1)]
	} else if w.d.below(2) == 0 {
		out = api.ReplicaOut{}
	}
	h.log = kept(h.log, out)
	h.durable = append(append(h.durable, out.Recs...), out.Base...)
	w.restart(n)
	return true
}

// restart begins a replica again from its log: it has promised no lower ballot and forgotten no vote, and its machine is the one machine.
func (w *world) restart(n int) {
	w.t.Helper()
	w.seen["begun again"]++
	h := w.hosts[n]
	h.r, h.begun = recoveredOf(w.t, w.c, n, h.log, h.clock), api.Ballot{}
	s := h.r.State()
	if below(s.Acceptor.Max, h.promised) {
		w.t.Fatalf("replica %d has promised %v, and knows of %v", n, h.promised, s.Acceptor.Max)
	}
	for _, m := range h.votes {
		if m.Slot >= s.Acceptor.Low && !slices.ContainsFunc(s.Acceptor.Votes, func(v api.Vote) bool {
			return v.Slot == m.Slot && (below(m.Bal, v.Bal) || v.Bal == m.Bal && same(v.Batch, m.Batch))
		}) {
			w.t.Fatalf("replica %d has forgotten its vote %+v: %+v", n, m, s.Acceptor)
		}
	}
	if s.Mark < h.marked {
		w.t.Fatalf("replica %d has told the mark %d, and has %d", n, h.marked, s.Mark)
	}
	w.isMachine(n, "begun again", s.Mark)
}

// isMachine wants a replica's machine to be the one machine behind that many batches.
func (w *world) isMachine(n int, what string, slot uint64) {
	w.t.Helper()
	if got := w.hosts[n].r.State().Machine; !same(got, w.images[slot]) {
		w.t.Fatalf("replica %d, %s at slot %d: %+v, want %+v", n, what, slot, got, w.images[slot])
	}
}

// ran holds what a replica runs, or takes over, against the one machine.
func (w *world) ran(n int, out api.ReplicaOut) {
	w.t.Helper()
	if len(out.Base) > 0 && len(out.Recs) > 0 {
		w.t.Fatalf("records beside a base: %+v", out)
	}
	if out.Installed {
		w.seen["installed"]++
		w.isMachine(n, "taken over", out.Slot)
	}
	if !out.Ran {
		return
	}
	if out.Slot == uint64(len(w.batches)) {
		w.extend(out.Batch)
	}
	if !same(w.batches[out.Slot], out.Batch) {
		w.t.Fatalf("slot %d: replica %d runs %+v, another %+v", out.Slot, n, out.Batch, w.batches[out.Slot])
	}
	w.isMachine(n, "run", out.Slot+1)
}

// extend lets the one machine run a batch, in which there must be nothing that nobody has asked for.
func (w *world) extend(b api.Batch) {
	w.t.Helper()
	for _, q := range b.Reqs {
		if cmd, is := w.asked[[2]uint64{q.Client, q.Seq}]; !is || !same(cmd, q.Cmd) {
			w.t.Fatalf("nobody asked for %+v", q)
		}
	}
	replies, err := w.machine.Batch(b)
	if err != nil {
		w.t.Fatalf("the one machine refuses: %v", err)
	}
	for _, r := range replies {
		w.replies[[2]uint64{r.Client, r.Seq}] = api.Msg{Kind: api.KReply, Seq: r.Seq, Stamp: r.Stamp, Code: r.Code, Data: r.Data}
	}
	w.batches, w.images = append(w.batches, b), append(w.images, w.machine.Image())
}

// answers holds all replies against those of the one machine.
func (w *world) answers(n int, out api.ReplicaOut) {
	w.t.Helper()
	for _, s := range out.Sends {
		if s.Msg.Kind != api.KReply {
			continue
		}
		if m, is := w.replies[[2]uint64{uint64(s.To), s.Msg.Seq}]; !is || !same(m, s.Msg) {
			w.t.Fatalf("replica %d answers %d with %+v, want %+v", n, s.To, s.Msg, m)
		}
	}
}

// begins wants a ballot that begins never to have been begun before, in no life.
func (w *world) begins(n int, out api.ReplicaOut) {
	w.t.Helper()
	h := w.hosts[n]
	if len(out.Recs) != 1 || out.Recs[0].Kind != api.RStart || h.keeps(out.Recs[0]) {
		w.t.Fatalf("replica %d begins with %+v", n, out.Recs)
	}
	h.begun = out.Recs[0].Bal
}

// keeps tells whether a record was ever durable.
func (h *host) keeps(r api.Record) bool {
	return slices.ContainsFunc(h.durable, func(k api.Record) bool { return same(k, r) })
}

// backed wants a message that leaves to be backed by records that are durable (P15.14).
func (w *world) backed(n, action int, m api.Msg) {
	w.t.Helper()
	h := w.hosts[n]
	ok := true
	switch m.Kind {
	case api.KPromise:
		ok = slices.ContainsFunc(h.durable, func(r api.Record) bool {
			return r.Bal == m.Bal && (r.Kind == api.RPromise || r.Kind == api.RVote)
		})
	case api.KAccept:
		ok = h.keeps(api.Record{Kind: api.RVote, Bal: m.Bal, Slot: m.Slot, Batch: m.Batch}) && m.Slot >= h.r.State().Acceptor.Low
		if !slices.ContainsFunc(h.votes, func(v api.Msg) bool { return same(v, m) }) {
			h.votes = append(h.votes, m)
		}
	case api.KPrepare:
		ok = h.keeps(api.Record{Kind: api.RStart, Bal: m.Bal}) && m.Bal == h.begun
		if action != api.ActEnter {
			ok = ok && action == api.ActBeat
			w.seen["prepared again"]++
		}
	case api.KBeat:
		h.marked = max(h.marked, m.Slot)
		ok = m.Slot == 0 || slices.ContainsFunc(h.log, func(r api.Record) bool { return r.Kind == api.RCheck && r.Slot == m.Slot })
	}
	if !ok {
		w.t.Fatalf("replica %d sends %+v at action %d, which its log does not back", n, m, action)
	}
	if (m.Kind == api.KPromise || m.Kind == api.KAccept) && below(h.promised, m.Bal) {
		h.promised = m.Bal
	}
}

// take takes the packet at a place out of the network.
func (w *world) take(at int) packet {
	p := w.net[at]
	w.net[at] = w.net[len(w.net)-1]
	w.net = w.net[:len(w.net)-1]
	return p
}

// arrives hands a packet to whom it is for; a replica takes it at its first action.
func (w *world) arrives(p packet) {
	w.t.Helper()
	if a := w.clients[p.to]; a != nil {
		a.done = a.done || p.m.Seq == a.seq
		return
	}
	n := int(p.to)
	for w.hosts[n].r.Action() != api.ActPacket {
		w.act(n, api.ReplicaIn{})
	}
	w.act(n, api.ReplicaIn{Has: true, Src: p.src, Msg: p.m})
}

// chaos does any one thing.
func (w *world) chaos(cut int) {
	w.t.Helper()
	n := w.d.below(len(w.hosts))
	switch k := w.d.below(100); {
	case k < 60 && len(w.net) > 0:
		p := w.take(w.d.below(len(w.net)))
		if int(p.to) != cut && int(p.src) != cut { // one is cut off for a while
			w.arrives(p)
		}
	case k < 75:
		for range w.d.below(12) {
			w.act(n, api.ReplicaIn{})
		}
	case k < 85:
		w.hosts[n].clock += uint64(w.d.below(4))
	case k < 95:
		id := 300 + api.Addr(w.d.below(4))
		w.ask(id, !w.clients[id].done)
	case w.d.below(20) == 0:
		w.restart(n)
	}
}

// settle lets calm rounds go by until all clients are answered, and tells how many.
func (w *world) settle(most int) int {
	w.t.Helper()
	w.calm = true
	for id := api.Addr(300); id < 304; id++ {
		if w.clients[id].done {
			w.ask(id, false)
		}
	}
	for rounds := range most {
		waits := false
		for id := api.Addr(300); id < 304; id++ {
			waits = waits || !w.clients[id].done
			if !w.clients[id].done && rounds%10 == 0 {
				w.ask(id, true)
			}
		}
		if !waits {
			return rounds
		}
		flight := w.net
		w.net = nil
		for _, p := range flight {
			w.arrives(p)
		}
		for n, h := range w.hosts {
			h.clock++
			for range api.Actions {
				w.act(n, api.ReplicaIn{})
			}
		}
	}
	return most
}

// P15.14, and what it is for: whatever the network, the clocks and the crashes do, what is sent is backed by the log, all replicas run the same batches in the same slots, are the one machine wherever they are, and answer what it answers. When it is calm the clients are answered.
func TestP15_14Backed(t *testing.T) {
	seen := map[string]int{}
	long := func(change func(c *api.Config)) api.Config {
		return with(func(c *api.Config) {
			c.MaxNum, c.MaxSlot, c.EpochMax = 1<<30, 1<<30, 200
			change(c)
		})
	}
	for at, c := range []api.Config{
		long(func(c *api.Config) {}),
		long(func(c *api.Config) { c.Window, c.Every = 1, 1 }),
		long(func(c *api.Config) { c.Window, c.Every, c.Delay, c.MaxBatch = 8, 3, 3, 8 }),
		long(func(c *api.Config) { c.F, c.Window, c.Every = 2, 2, 2 }),
	} {
		for run := range 12 {
			w := newWorld(t, c, &dice{uint64(100*at + run)}, seen)
			cut := -1
			for i := range 8000 {
				if i%800 == 0 {
					cut = one(w.d, -1, w.d.below(len(w.hosts)))
				}
				w.chaos(cut)
			}
			if rounds := w.settle(3000); rounds == 3000 {
				t.Fatalf("shape %d, run %d: nobody is answered behind %d rounds", at, run, rounds)
			}
			seen["slots"] += len(w.batches)
		}
	}
	for what, least := range map[string]int{"slots": 500, "ran": 2000, "installed": 100, "begun again": 500, "base": 500, "start": 300, "prepared again": 100} {
		if seen[what] < least {
			t.Errorf("%s: only %d times", what, seen[what])
		}
	}
}
