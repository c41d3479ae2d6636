package cluster_test

import (
	"testing"

	"quorum/api"
	"quorum/cluster"
)

// forged gives a fresh cluster with forged packets in flight: packet i, of the byte i, is from client 300+i to the replica that the list tells.
func forged(t *testing.T, to ...int) *cluster.Cluster {
	t.Helper()
	c := begun(t, example())
	for i, n := range to {
		quiet(t, "forge", c, forge(300+uint64(i), n, byte(i)))
	}
	return c
}

// isInbox wants so many packets in each replica's inbox.
func isInbox(t testing.TB, what string, c *cluster.Cluster, want ...int) {
	t.Helper()
	for n, k := range want {
		if got := c.Node(n).Inbox; got != k {
			t.Errorf("%s: %d packets in the inbox of replica %d, want %d", what, got, n, k)
		}
	}
}

// P16.3: the packets in flight, in the order in which they came there; whatever their bytes are.
func TestP16_3Flight(t *testing.T) {
	c := begun(t, example())
	if c.Flight() != nil {
		t.Errorf("a fresh cluster has %+v in flight", c.Flight())
	}
	long := make([]byte, api.MaxFrame)
	long[77] = 7
	do(t, c, forge(most, 2, 1, 2, 3), forge(256, 0), forge(300, 1, long...), send(256, 9))
	ask := datagram(t, request(1, 9))
	want := []api.Packet{
		{From: most, To: 2, Data: []byte{1, 2, 3}}, {From: 256, To: 0}, {From: 300, To: 1, Data: long},
		{From: 256, To: 0, Data: ask}, {From: 256, To: 1, Data: ask}, {From: 256, To: 2, Data: ask},
	}
	if got := c.Flight(); !same(got, want) {
		t.Errorf("in flight %+v, want %+v", got, want)
	}
}

func TestP16_2DropAndCopy(t *testing.T) {
	c := forged(t, 0, 1, 2, 0)
	quiet(t, "copy", c, double(1))
	isFlight(t, "the second once more", c, 300, 0, 301, 1, 302, 2, 303, 0, 301, 1)
	quiet(t, "drop", c, drop(1))
	isFlight(t, "the second is gone", c, 300, 0, 302, 2, 303, 0, 301, 1)
	quiet(t, "drop", c, drop(3), drop(0))
	isFlight(t, "the last and the first", c, 302, 2, 303, 0)
	quiet(t, "no packet there", c, drop(2), double(2), deliver(2), drop(9999), double(9999), deliver(9999), deliver(1<<62))
	isFlight(t, "no packet there", c, 302, 2, 303, 0)
	quiet(t, "copy", c, double(1), double(2), drop(1), drop(1))
	if f := c.Flight(); len(f) != 2 || !same(f[1], api.Packet{From: 303, To: 0, Data: []byte{3}}) {
		t.Errorf("a copy of a copy: %+v", f)
	}
	isInbox(t, "nothing was delivered", c, 0, 0, 0)
}

func TestP16_2Deliver(t *testing.T) {
	c := forged(t, 0, 1, 0, 2, 0)
	quiet(t, "deliver", c, deliver(2))
	isFlight(t, "the third is delivered", c, 300, 0, 301, 1, 303, 2, 304, 0)
	isInbox(t, "the third is delivered", c, 1, 0, 0)
	quiet(t, "deliver", c, deliver(3), deliver(1), deliver(1))
	isFlight(t, "all but the first", c, 300, 0)
	isInbox(t, "all but the first", c, 2, 1, 1)
	quiet(t, "to one that is down", c, double(0), double(0))
	do(t, c, crash(0))
	quiet(t, "to one that is down", c, deliver(0))
	do(t, c, restart(0), stop(0))
	quiet(t, "to one that has stopped", c, deliver(0))
	isFlight(t, "it is lost", c, 300, 0)
	isInbox(t, "it is lost", c, 0, 1, 1)
}

// 256 packets are in an inbox at most; those that come then are lost.
func TestP16_2Inbox(t *testing.T) {
	c := begun(t, example())
	for i := range 258 {
		do(t, c, forge(300, 1, byte(i)))
	}
	for range 255 {
		do(t, c, deliver(0))
	}
	isInbox(t, "one less", c, 0, 255, 0)
	do(t, c, deliver(1))
	isInbox(t, "full", c, 0, 256, 0)
	quiet(t, "one too many", c, deliver(1), deliver(0))
	isInbox(t, "one too many", c, 0, 256, 0)
	isFlight(t, "one too many", c)
	do(t, c, forge(300, 2), deliver(0))
	isInbox(t, "that of another", c, 0, 256, 1)
	do(t, c, step(1, 1), forge(300, 1), deliver(0)) // none of them fits
	isInbox(t, "emptied", c, 0, 1, 1)
}

// lose lets all packets to an address be lost.
func lose(t *testing.T, c *cluster.Cluster, to api.Addr) {
	t.Helper()
	gone := 0
	for i, p := range c.Flight() {
		if p.To == to {
			do(t, c, drop(i-gone))
			gone++
		}
	}
}

// filled gives a cluster of seven replicas whose client 256 has asked, and 4096 packets that are all this request.
func filled(t *testing.T) *cluster.Cluster {
	t.Helper()
	c := begun(t, with(func(s *api.Setup) { s.Config.F, s.Config.Beat = 3, 1 }))
	do(t, c, send(256, transfer(1)...))
	for range 12 {
		do(t, c, calm(1))
		lose(t, c, 256) // it never hears that it is answered
	}
	if k := c.Node(6); k.Slot != 1 || !c.Client(256).Waits {
		t.Fatalf("not as it should be: %+v, %+v", k, c.Client(256))
	}
	for range len(c.Flight()) {
		do(t, c, drop(0))
	}
	for len(c.Flight()) < 4094 {
		if seen := do(t, c, again(256)); len(seen) != 7 {
			t.Fatalf("seen %+v", seen)
		}
	}
	return c
}

// 4096 packets are in flight at most, but for calm rounds; those that come then are lost. That they were sent is seen.
func TestP16_2FullFlight(t *testing.T) {
	c := filled(t)
	if n := len(c.Flight()); n != 4095 {
		t.Fatalf("%d packets in flight", n)
	}
	if seen := do(t, c, again(256)); len(seen) != 7 {
		t.Errorf("seen %+v", seen)
	}
	f := c.Flight()
	if len(f) != 4096 || f[4095].To != 0 {
		t.Errorf("%d packets in flight, the last %+v", len(f), f[4095])
	}
	do(t, c, forge(300, 1), double(5), step(0, 1), tick(0, 5))
	if seen := do(t, c, step(0, 9)); len(ofKind(seen, api.SSent)) < 7 {
		t.Errorf("what it sends is not seen: %+v", seen)
	}
	if !same(c.Flight(), f) {
		t.Errorf("what is too much is in flight: %d", len(c.Flight()))
	}
	do(t, c, drop(0), double(5), forge(300, 1))
	if g := c.Flight(); len(g) != 4096 || g[4095].From != 256 {
		t.Errorf("there was room for one: %d", len(g))
	}
}

// In calm rounds there is room for all, in flight and in the inboxes.
func TestP16_2CalmHasRoom(t *testing.T) {
	c := filled(t)
	seen := do(t, c, calm(1))
	answers := 0
	for n := range api.Addr(7) {
		answers += len(sentKind(t, seen, n, api.KReply))
	}
	if answers != 4095 {
		t.Errorf("%d answers to 4095 requests", answers)
	}
	f := c.Flight()
	if len(f) != len(seen) || len(f) < 4095+49 {
		t.Errorf("%d packets in flight, %d seen", len(f), len(seen))
	}
	do(t, c, forge(300, 1), double(0), again(256))
	if !same(c.Flight(), f) {
		t.Errorf("the rounds are over, and %d packets are in flight", len(c.Flight()))
	}
	if seen := ofKind(do(t, c, calm(1)), api.SReplied); len(seen) != 1 || c.Client(256).Waits {
		t.Errorf("seen %+v", seen)
	}
}

// answered plays calm rounds until replies are on their way to client 256, and tells their places.
func answered(t *testing.T, c *cluster.Cluster) []int {
	t.Helper()
	for range 50 {
		var list []int
		for i, p := range c.Flight() {
			if p.To == 256 {
				list = append(list, i)
			}
		}
		if list != nil {
			return list
		}
		do(t, c, calm(1))
	}
	t.Fatal("nobody answers")
	return nil
}

// A client takes the reply to the request that it waits for, once.
func TestP16_2AClientTakesAReply(t *testing.T) {
	c := begun(t, example())
	do(t, c, send(256, transfer(7)...))
	at := answered(t, c)
	p := c.Flight()[at[0]]
	m := message(t, p.Data)
	want := api.Reply{Client: 256, Seq: 1, Stamp: m.Stamp}
	quiet(t, "copies", c, double(at[0]), double(at[0]))
	if k := c.Client(256); !k.Waits || !same(k.Last, api.Reply{}) {
		t.Errorf("ahead of the reply: %+v", k)
	}
	got := do(t, c, deliver(at[0]))
	event := got[0].Event
	isSeen(t, "the reply", got, []api.Seen{{Event: event, Kind: api.SReplied, Client: 256, Reply: want}})
	if k := c.Client(256); k.Waits || !same(k.Last, want) || k.Seq != 1 {
		t.Errorf("behind the reply: %+v", k)
	}
	last := len(c.Flight()) - 1
	quiet(t, "once more", c, deliver(last))
	do(t, c, send(256, transfer(1)...))
	quiet(t, "it waits for another", c, deliver(last-1))
	if k := c.Client(256); !k.Waits || k.Seq != 2 || !same(k.Last, want) {
		t.Errorf("the reply to an older request: %+v", k)
	}
}

// A request of an address that no client of the setup has: its reply arrives nowhere.
func TestP16_2NobodyTakesAReply(t *testing.T) {
	s := example()
	c := begun(t, s)
	for n := range 3 {
		do(t, c, forge(700, n, datagram(t, request(1, transfer(1)...))...))
	}
	for range 30 {
		for i, p := range c.Flight() {
			if p.To == 700 {
				nodes := lookAt(c, s).nodes
				quiet(t, "to nobody", c, deliver(i))
				if got := lookAt(c, s); !same(got.nodes, nodes) {
					t.Errorf("a reply to nobody changes %+v", got.nodes)
				}
				return
			}
		}
		do(t, c, calm(1))
	}
	t.Error("nobody answers client 700")
}
