package cluster_test

import (
	"testing"

	"quorum/api"
	"quorum/cluster"
)

// shapes are setups unlike one another.
func shapes() []api.Setup {
	long := func(change func(g *api.Config)) api.Setup {
		return with(func(s *api.Setup) {
			three(s)
			s.Config.MaxNum, s.Config.MaxSlot = 1<<20, 1<<20
			change(&s.Config)
		})
	}
	return []api.Setup{
		long(func(g *api.Config) {}),
		long(func(g *api.Config) { g.Window, g.Every, g.MaxBatch, g.Beat, g.Epoch = 1, 1, 1, 1, 1 }),
		long(func(g *api.Config) { g.Window, g.Every, g.MaxBatch, g.Delay = 8, 3, 8, 5 }),
		long(func(g *api.Config) { g.F, g.Window, g.Every = 2, 2, 2 }),
		long(func(g *api.Config) { g.F, g.Window, g.Every, g.Epoch = 3, 8, 8, 3 }),
	}
}

// chaos draws scripts that do whatever a script may.
type chaos struct {
	*dice
	s     api.Setup
	c     *cluster.Cluster
	cmds  [][]byte
	sends int // requests that clients may still begin
	forge bool
	stops int // replicas that may still stop for good
	cut   int // the replica whose packets are lost for a while; -1: none
	drawn int // events so far
}

func newChaos(t testing.TB, s api.Setup, c *cluster.Cluster, seed uint64) *chaos {
	t.Helper()
	return &chaos{dice: &dice{seed}, s: s, c: c, cmds: commands(t), sends: 1 << 20, forge: true, stops: s.Config.F, cut: -1}
}

// commands are what the clients ask for: some can be done now and then, some never.
func commands(t testing.TB) [][]byte {
	t.Helper()
	list := [][]byte{transfer(1), transfer(2), transfer(250), nil, {99, 1}, []byte("no command")}
	list = append(list, packed(t, api.Cmd{Verb: api.VTransfer, Acct: 2, To: 1, Amount: 2}))
	for id := uint64(1); id < 4; id++ {
		list = append(list,
			packed(t, api.Cmd{Verb: api.VBalance, Acct: id}),
			packed(t, api.Cmd{Verb: api.VOpen, Deal: id, Acct: 1, To: 2, Arbiter: 3, Amount: 5 + id, Due: 1 << 30, Terms: "on release { require caller == buyer, 7; pay 2 to arbiter; }"}),
			packed(t, api.Cmd{Verb: api.VFund, Deal: id}),
			packed(t, api.Cmd{Verb: api.VRelease, Deal: id}),
			packed(t, api.Cmd{Verb: api.VDispute, Deal: id}),
			packed(t, api.Cmd{Verb: api.VArbitrate, Deal: id, Amount: 3}),
			packed(t, api.Cmd{Verb: api.VRefund, Deal: id}),
		)
	}
	return list
}

func (x *chaos) nodes() int { return 2*x.s.Config.F + 1 }

// tears draws what a disk keeps of the files that it has, or will have.
func (x *chaos) tears(node int) []api.WalTear {
	var list []api.WalTear
	for _, f := range x.c.Disk(node).Files {
		for file := f.Number; file < f.Number+3; file++ {
			list = append(list, api.WalTear{File: file, Keep: one(x.dice, 0, 1<<30, x.below(60), x.below(3000)), Flip: one(x.dice, -1, -1, x.below(24000))})
		}
	}
	return one(x.dice, nil, list, list)
}

// event draws an event. For a while now and then one replica is cut off, or down: the others go on without it.
func (x *chaos) event() api.Event {
	if x.drawn++; x.drawn%200 == 0 {
		x.cut = one(x.dice, -1, x.below(x.nodes()))
		if x.cut >= 0 && x.below(2) == 0 {
			return crash(x.cut, x.tears(x.cut)...)
		}
	}
	node := x.below(x.nodes())
	client := x.s.Clients[x.below(len(x.s.Clients))].Id
	switch k := x.below(200); {
	case k < 80:
		return x.packet()
	case k < 130:
		return step(node, uint64(x.below(10*max(2*x.c.Node(node).Inbox, 2))))
	case k < 140:
		return tick(one(x.dice, node, node, -1), uint64(x.below(5)))
	case k < 160:
		return calm(uint64(x.below(4)))
	case k < 180:
		return x.ask(client)
	case k < 183:
		return fuse(node, uint64(x.below(20)), x.tears(node)...)
	case k < 185:
		return crash(node, x.tears(node)...)
	case k < 195 && node != x.cut:
		return restart(node)
	case k < 196 && x.stops > 0 && x.below(10) == 0:
		x.stops--
		return stop(node)
	}
	return x.stranger(client)
}

// packet draws something that the network does.
func (x *chaos) packet() api.Event {
	flight := x.c.Flight()
	if len(flight) == 0 {
		return deliver(x.below(3))
	}
	at := x.below(min(len(flight), 40))
	p := flight[at]
	if p.From == api.Addr(x.cut) || p.To == api.Addr(x.cut) {
		return drop(at)
	}
	return one(x.dice, deliver, deliver, deliver, deliver, deliver, deliver, drop, double)(at)
}

// ask draws a client's request, a new one or once more.
func (x *chaos) ask(client uint64) api.Event {
	if x.c.Client(client).Waits && x.below(4) > 0 || x.sends == 0 {
		return again(client)
	}
	x.sends--
	return send(client, one(x.dice, x.cmds...)...)
}

// stranger draws a datagram that somebody sends under a client's address.
func (x *chaos) stranger(client uint64) api.Event {
	if !x.forge {
		return deliver(0)
	}
	node := x.below(x.nodes())
	who := one(x.dice, client, 300, 301, most)
	flight := x.c.Flight()
	if len(flight) > 0 && x.below(2) == 0 { // what another has sent, perhaps with a bit turned
		data := flight[x.below(len(flight))].Data
		if len(data) > 0 && x.below(2) == 0 {
			data[x.below(len(data))] ^= 1 << x.below(8)
		}
		return forge(who, node, data...)
	}
	return forge(who, node, mustEncode(request(uint64(1+x.below(3)), one(x.dice, x.cmds...)...))...)
}
