package cluster_test

import (
	"testing"

	"quorum/api"
	"quorum/replica"
	"quorum/wal"
	"quorum/wire"
)

// second is a plainer cluster: one thing behind the other, by the chapter's words.
type second struct {
	s       api.Setup
	hosts   []*secondHost
	clients []*secondClient
	flight  []api.Packet
	events  int
	seen    []api.Seen
	calm    bool
}

type secondHost struct {
	n     int
	how   int
	clock uint64
	disk  *wal.Disk
	log   *wal.Log
	r     *replica.Replica
	inbox []api.Packet
	tears []api.WalTear
}

type secondClient struct {
	api.ClientLook
	resend uint64
	cmd    []byte
}

func newSecond(t testing.TB, s api.Setup) *second {
	t.Helper()
	x := &second{s: s}
	for n := range 2*s.Config.F + 1 {
		h := &secondHost{n: n, disk: wal.NewDisk()}
		var err, err2 error
		h.r, err = replica.New(s.Config, n, s.Accounts, 0)
		h.log, _, err2 = wal.Open(h.disk)
		if err != nil || err2 != nil {
			t.Fatal(err, err2)
		}
		x.hosts = append(x.hosts, h)
	}
	for _, a := range s.Clients {
		x.clients = append(x.clients, &secondClient{ClientLook: api.ClientLook{Id: a.Id}, resend: a.Resend})
	}
	return x
}

func (x *second) client(id uint64) *secondClient {
	for _, a := range x.clients {
		if a.Id == id {
			return a
		}
	}
	return nil
}

func (x *second) saw(s api.Seen) {
	s.Event = x.events
	x.seen = append(x.seen, s)
}

func (x *second) put(p api.Packet) {
	if len(x.flight) >= 4096 && !x.calm {
		return
	}
	x.flight = append(x.flight, p)
}

func (x *second) send(from, to api.Addr, m api.Msg) {
	x.saw(api.Seen{Kind: api.SSent, From: from, To: to, Data: mustEncode(m)})
	x.put(api.Packet{From: from, To: to, Data: mustEncode(m)})
}

// mustEncode gives a message's datagram; none that is sent is refused.
func mustEncode(m api.Msg) []byte {
	b, err := wire.EncodeMsg(m)
	if err != nil {
		panic(err)
	}
	return b
}

func (x *second) arrive(p api.Packet) {
	if uint64(p.To) < uint64(len(x.hosts)) {
		h := x.hosts[p.To]
		if h.how == 0 && (x.calm || len(h.inbox) < 256) {
			h.inbox = append(h.inbox, p)
		}
		return
	}
	a := x.client(uint64(p.To))
	if a == nil || uint64(p.From) >= uint64(len(x.hosts)) {
		return
	}
	m, err := wire.DecodeMsg(p.Data)
	if err == nil && m.Kind == api.KReply && a.Waits && a.Seq == m.Seq {
		a.Waits = false
		a.Last = api.Reply{Client: a.Id, Seq: m.Seq, Stamp: m.Stamp, Code: m.Code, Data: m.Data}
		x.saw(api.Seen{Kind: api.SReplied, Client: a.Id, Reply: a.Last})
	}
}

// down takes a replica down; its disk keeps what the tears say.
func (x *second) down(h *secondHost, tears []api.WalTear) {
	h.how, h.inbox = 1, nil
	h.disk.Crash(tears)
	x.saw(api.Seen{Kind: api.SDown, Node: h.n})
}

func (x *second) act(h *secondHost) {
	in := api.ReplicaIn{Now: h.clock}
	for h.r.Action() == 0 && len(h.inbox) > 0 && !in.Has {
		p := h.inbox[0]
		h.inbox = h.inbox[1:]
		m, err := wire.DecodeMsg(p.Data)
		peer := uint64(p.From) < uint64(len(x.hosts))
		if err == nil && (m.Kind == 1 && p.From >= 256 || m.Kind >= 3 && m.Kind <= 10 && peer) {
			in.Has, in.Src, in.Msg = true, p.From, m
		}
	}
	out := h.r.Act(in)
	if out.Ran {
		x.saw(api.Seen{Kind: api.SRan, Node: h.n, Slot: out.Slot, Batch: out.Batch})
	}
	if out.Installed {
		x.saw(api.Seen{Kind: api.SInstall, Node: h.n, Slot: out.Slot})
	}
	if !h.durable(out) {
		x.down(h, h.tears)
		return
	}
	for _, s := range out.Sends {
		x.send(api.Addr(h.n), s.To, s.Msg)
	}
}

func (h *secondHost) durable(out api.ReplicaOut) bool {
	if len(out.Base) > 0 {
		var base [][]byte
		for _, r := range out.Base {
			b, _ := wire.EncodeRecord(r)
			base = append(base, b)
		}
		return h.log.Rotate(base) == nil
	}
	if len(out.Recs) == 0 {
		return true
	}
	for _, r := range out.Recs {
		b, _ := wire.EncodeRecord(r)
		if _, err := h.log.Append(b); err != nil {
			return false
		}
	}
	return h.log.Sync() == nil
}

func (x *second) restart(h *secondHost) {
	log, bodies, err := wal.Open(h.disk)
	var recs []api.Record
	for _, b := range bodies {
		r, wrong := wire.DecodeRecord(b)
		if wrong != nil {
			err = wrong
		}
		recs = append(recs, r)
	}
	if err == nil {
		h.r, err = replica.Recover(x.s.Config, h.n, x.s.Accounts, recs, h.clock)
	}
	if err != nil {
		h.disk.Crash(h.tears)
		return
	}
	h.how, h.log, h.inbox = 0, log, nil
	x.saw(api.Seen{Kind: api.SUp, Node: h.n, Slot: h.r.State().Machine.Slot})
}

func (x *second) ask(a *secondClient) {
	for n := range x.hosts {
		x.send(api.Addr(a.Id), api.Addr(n), request(a.Seq, a.cmd...))
	}
	a.Sent = a.Clock
}

func on(clock *uint64, count uint64) {
	*clock += count
	if *clock > 1<<40 {
		*clock = 1 << 40
	}
}

func (x *second) tick(count uint64) {
	for _, h := range x.hosts {
		on(&h.clock, count)
	}
	for _, a := range x.clients {
		on(&a.Clock, count)
	}
}

func (x *second) steps(h *secondHost, count int) {
	for i := 0; i < count && h.how == 0; i++ {
		x.act(h)
	}
}

func (x *second) round() {
	x.tick(1)
	for _, a := range x.clients {
		if a.Waits && a.Clock >= a.Sent+a.resend {
			x.ask(a)
		}
	}
	all := x.flight
	x.flight = nil
	for _, p := range all {
		x.arrive(p)
	}
	for _, h := range x.hosts {
		x.steps(h, 10*max(len(h.inbox), 1))
	}
}

// do plays an event that is not refused.
func (x *second) do(e api.Event) []api.Seen {
	x.seen, x.calm = nil, false
	switch h := x.hosts[max(e.Node, 0)]; e.Kind {
	case api.EDeliver, api.EDrop, api.ECopy:
		x.packet(e)
	case api.EForge:
		x.put(api.Packet{From: api.Addr(e.Client), To: api.Addr(e.Node), Data: append([]byte(nil), e.Data...)})
	case api.ETick:
		if e.Node < 0 {
			x.tick(e.Count)
		} else {
			on(&h.clock, e.Count)
		}
	case api.EStep:
		x.steps(h, int(e.Count))
	case api.EStop:
		if h.how == 0 {
			x.saw(api.Seen{Kind: api.SDown, Node: h.n})
		}
		h.how, h.inbox = 2, nil
	case api.ECrash:
		if h.how == 0 {
			x.down(h, e.Tears)
		}
	case api.ERestart:
		if h.how == 1 {
			x.restart(h)
		}
	case api.EFuse:
		if h.how != 2 {
			h.disk.Fuse(int(e.Count))
			h.tears = append([]api.WalTear(nil), e.Tears...)
		}
	case api.ESend:
		a := x.client(e.Client)
		a.Seq, a.Waits, a.cmd = a.Seq+1, true, append([]byte(nil), e.Data...)
		x.saw(api.Seen{Kind: api.SAsked, Client: a.Id, Seq: a.Seq, Data: append([]byte(nil), e.Data...)})
		x.ask(a)
	case api.EAgain:
		if a := x.client(e.Client); a.Waits {
			x.ask(a)
		}
	case api.ECalm:
		x.calm = true
		for range e.Count {
			x.round()
		}
	}
	x.events++
	return x.seen
}

func (x *second) packet(e api.Event) {
	if e.Index >= len(x.flight) {
		return
	}
	p := x.flight[e.Index]
	if e.Kind == api.ECopy {
		x.put(p)
		return
	}
	x.flight = append(append([]api.Packet(nil), x.flight[:e.Index]...), x.flight[e.Index+1:]...)
	if e.Kind == api.EDeliver {
		x.arrive(p)
	}
}

// look is all that is to be seen of it.
func (x *second) look() look {
	l := look{flight: append([]api.Packet(nil), x.flight...)}
	for _, h := range x.hosts {
		k := api.NodeLook{How: h.how, Clock: h.clock}
		if h.how == 0 {
			s := h.r.State()
			k = api.NodeLook{Clock: h.clock, Inbox: len(h.inbox), Slot: s.Machine.Slot, View: s.Election.View, Low: s.Acceptor.Low, Mark: s.Mark, Machine: s.Machine}
		}
		l.nodes, l.disks = append(l.nodes, k), append(l.disks, h.disk.Image())
	}
	for _, a := range x.clients {
		l.clients = append(l.clients, a.ClientLook)
	}
	return l
}

// P16.2 to P16.4, in long runs: the cluster does what the plainer one does, event by event, and is to be seen so.
func TestP16_2BesideASecondCluster(t *testing.T) {
	seen := map[api.SeenKind]int{}
	for at, s := range shapes() {
		for run := range 6 {
			c, x := begun(t, s), newSecond(t, s)
			d := newChaos(t, s, c, uint64(100*at+run))
			for i := range 1500 {
				e := d.event()
				got, want := do(t, c, e), x.do(e)
				if !same(got, want) {
					t.Fatalf("shape %d, run %d, event %d, %+v:\n%+v, want\n%+v", at, run, i, e, got, want)
				}
				for _, s := range got {
					seen[s.Kind]++
				}
				if got, want := lookAt(c, s), x.look(); !same(got, want) {
					t.Fatalf("shape %d, run %d, event %d, %+v:\n%+v, want\n%+v", at, run, i, e, got, want)
				}
			}
		}
	}
	for kind := api.SSent; kind <= api.SUp; kind++ {
		if seen[kind] < 50 {
			t.Errorf("kind %d was seen only %d times", kind, seen[kind])
		}
	}
}
