package engine_test

import (
	"testing"

	"quorum/api"
	"quorum/cluster"
)

// storm draws scripts that do whatever a script may, beside a cluster on which they are played as they grow.
type storm struct {
	*dice
	s     api.Setup
	c     *cluster.Cluster
	asks  []ask
	sends int // requests that clients may still begin
	forge bool
	stops int // replicas that may still stop for good
	cut   int // the replica whose packets are lost for a while; -1: none
	drawn []api.Event
}

// ask is what a client may ask for.
type ask struct {
	client uint64
	cmd    []byte
}

// asks are some that can be done now and then, and some that never can.
func asks(t testing.TB) []ask {
	t.Helper()
	list := []ask{{256, nil}, {257, []byte{99, 1}}, {258, []byte("no command")}}
	for _, c := range []api.Cmd{
		{Verb: api.VTransfer, Acct: 1, To: 2, Amount: 10}, {Verb: api.VTransfer, Acct: 1, To: 3, Amount: 95}, {Verb: api.VTransfer, Acct: 2, To: 1, Amount: 10},
		{Verb: api.VBalance, Acct: 1}, {Verb: api.VBalance, Acct: 2}, {Verb: api.VBalance, Acct: 3}, {Verb: api.VEnrol, Acct: 9, Amount: 50}, {Verb: api.VClose, Acct: 9},
		{Verb: api.VOpen, Deal: 7, Acct: 1, To: 2, Arbiter: 3, Amount: 30, Due: 1 << 30, Terms: "on release { require caller == buyer, 7; pay 2 to arbiter; }\n"},
		{Verb: api.VOpen, Deal: 8, Acct: 1, To: 2, Arbiter: 3, Amount: 5, Due: 40},
		{Verb: api.VFund, Deal: 7}, {Verb: api.VFund, Deal: 8}, {Verb: api.VRelease, Deal: 7}, {Verb: api.VDispute, Deal: 7}, {Verb: api.VArbitrate, Deal: 7, Amount: 3},
		{Verb: api.VRefund, Deal: 8}, {Verb: api.VExpire, Deal: 8}, {Verb: api.VCallOff, Deal: 8}, {Verb: api.VLook, Deal: 7}, {Verb: api.VLook, Deal: 8},
	} {
		for client := uint64(256); client < 259; client++ {
			list = append(list, ask{client, packed(t, c)})
		}
	}
	return list
}

// shapes are setups unlike one another.
func shapes() []api.Setup {
	with := func(change func(g *api.Config)) api.Setup {
		s := houseSetup()
		s.Config.MaxNum, s.Config.MaxSlot = 1<<20, 1<<20
		change(&s.Config)
		return s
	}
	return []api.Setup{
		with(func(g *api.Config) {}),
		with(func(g *api.Config) { g.Window, g.Every, g.MaxBatch, g.Beat, g.Epoch = 1, 1, 1, 1, 1 }),
		with(func(g *api.Config) { g.Window, g.Every, g.MaxBatch, g.Delay = 8, 3, 8, 5 }),
		with(func(g *api.Config) { g.F, g.Window, g.Every = 2, 2, 2 }),
	}
}

func newStorm(t testing.TB, s api.Setup, seed uint64) *storm {
	t.Helper()
	c, err := cluster.New(s)
	if err != nil {
		t.Fatal(err)
	}
	return &storm{dice: &dice{seed}, s: s, c: c, asks: asks(t), sends: api.MaxCalls, stops: s.Config.F, cut: -1}
}

// nodes is how many replicas there are.
func (x *storm) nodes() int { return 2*x.s.Config.F + 1 }

// do plays an event, which is a part of the script from then on.
func (x *storm) do(t testing.TB, e api.Event) {
	t.Helper()
	if _, err := x.c.Do(e); err != nil {
		t.Fatalf("Do(%+v): %v", e, err)
	}
	x.drawn = append(x.drawn, e)
}

// blow draws and plays so many events.
func (x *storm) blow(t testing.TB, events int) {
	t.Helper()
	for range events {
		x.do(t, x.event(t))
	}
}

// text gives the script so far.
func (x *storm) text(t testing.TB) string {
	t.Helper()
	return printed(t, x.s, x.drawn)
}

// tears draws what a disk keeps of the files that it has, or will have.
func (x *storm) tears(node int) []api.WalTear {
	var list []api.WalTear
	for _, f := range x.c.Disk(node).Files {
		for file := f.Number; file < f.Number+2; file++ {
			list = append(list, api.WalTear{File: file, Keep: one(x.dice, 0, 1<<30, x.below(60), x.below(3000)), Flip: one(x.dice, -1, -1, x.below(24000))})
		}
	}
	return one(x.dice, nil, list, list)
}

// event draws an event. For a while now and then one replica is cut off, or down: the others go on without it.
func (x *storm) event(t testing.TB) api.Event {
	if len(x.drawn)%120 == 119 {
		x.cut = one(x.dice, -1, x.below(x.nodes()))
		if x.cut >= 0 && x.below(2) == 0 {
			return api.Event{Kind: api.ECrash, Node: x.cut, Tears: x.tears(x.cut)}
		}
	}
	node := x.below(x.nodes())
	client := x.s.Clients[x.below(len(x.s.Clients))].Id
	switch k := x.below(200); {
	case k < 60:
		return x.packet()
	case k < 110:
		return api.Event{Kind: api.EStep, Node: node, Count: uint64(x.below(10 * max(2*x.c.Node(node).Inbox, 2)))}
	case k < 125:
		return api.Event{Kind: api.ETick, Node: one(x.dice, node, node, -1), Count: uint64(x.below(5))}
	case k < 150:
		return api.Event{Kind: api.ECalm, Count: uint64(x.below(6))}
	case k < 175:
		return x.ask(client)
	case k < 179:
		return api.Event{Kind: api.EFuse, Node: node, Count: uint64(x.below(20)), Tears: x.tears(node)}
	case k < 182:
		return api.Event{Kind: api.ECrash, Node: node, Tears: x.tears(node)}
	case k < 194 && node != x.cut:
		return api.Event{Kind: api.ERestart, Node: node}
	case k < 195 && x.stops > 0 && x.below(3) == 0:
		x.stops--
		return api.Event{Kind: api.EStop, Node: node}
	}
	return x.stranger(t, client)
}

// packet draws something that the network does.
func (x *storm) packet() api.Event {
	flight := x.c.Flight()
	if len(flight) == 0 {
		return api.Event{Kind: api.EDeliver, Index: x.below(3)}
	}
	at := x.below(min(len(flight), 40))
	if p := flight[at]; p.From == api.Addr(x.cut) || p.To == api.Addr(x.cut) {
		return api.Event{Kind: api.EDrop, Index: at}
	}
	return api.Event{Kind: one(x.dice, api.EDeliver, api.EDeliver, api.EDeliver, api.EDeliver, api.EDrop, api.ECopy), Index: at}
}

// ask draws a client's request, a new one or once more.
func (x *storm) ask(client uint64) api.Event {
	if x.c.Client(client).Waits && x.below(4) > 0 || x.sends == 0 {
		return api.Event{Kind: api.EAgain, Client: client}
	}
	x.sends--
	a := one(x.dice, x.asks...)
	return api.Event{Kind: api.ESend, Client: a.client, Data: a.cmd}
}

// stranger draws a datagram that somebody sends under a client's address.
func (x *storm) stranger(t testing.TB, client uint64) api.Event {
	if !x.forge {
		return api.Event{Kind: api.EDeliver}
	}
	e := api.Event{Kind: api.EForge, Client: one(x.dice, client, 300, 301, most), Node: x.below(x.nodes())}
	if flight := x.c.Flight(); len(flight) > 0 && x.below(2) == 0 { // what another has sent, perhaps with a bit turned
		e.Data = flight[x.below(len(flight))].Data
		if len(e.Data) > 0 && x.below(2) == 0 {
			e.Data[x.below(len(e.Data))] ^= 1 << x.below(8)
		}
		return e
	}
	e.Data = datagram(t, uint64(1+x.below(3)), one(x.dice, x.asks...).cmd)
	return e
}
