package cluster_test

import (
	"errors"
	"testing"

	"quorum/api"
	"quorum/cluster"
)

func TestExample1(t *testing.T) {
	c := begun(t, example())
	prepare, beat := api.Msg{Kind: api.KPrepare, Bal: bal(1, 0)}, api.Msg{Kind: api.KBeat, Bal: bal(1, 0)}
	want := append(sentToAll(t, 0, 0, 3, prepare), sentToAll(t, 0, 0, 3, beat)...)
	want = append(want, sentToAll(t, 0, 0, 3, prepare)...) // what Resend asks for
	want = append(want, sentToAll(t, 0, 1, 3, beat)...)
	want = append(want, sentToAll(t, 0, 2, 3, beat)...)
	isSeen(t, "calm 1", do(t, c, calm(1)), want)
}

func TestExample2(t *testing.T) {
	c := begun(t, example())
	do(t, c, calm(1))
	n := len(c.Flight())
	isSeen(t, "send", do(t, c, send(256, 7, 8)), asked(t, 1, 256, 1, 7, 8))
	if len(c.Flight()) != n+3 {
		t.Errorf("%d packets in flight, were %d", len(c.Flight()), n)
	}
}

func TestExample3(t *testing.T) {
	c := begun(t, example())
	quiet(t, "deliver 9999", c, deliver(9999))
	for _, x := range []struct {
		e  api.Event
		at int
	}{{deliver(-1), 3}, {step(3, 0), 1}, {api.Event{Kind: api.EStop, Count: 1}, 4}} {
		_, err := c.Do(x.e)
		isFault(t, "example 3", err, api.ErrClusterEvent, x.at)
	}
}

func TestExample4(t *testing.T) {
	for _, tears := range [][]api.WalTear{nil, {{File: 1, Keep: 1000, Flip: -1}}} {
		c := begun(t, example())
		isSeen(t, "its disk is dead", do(t, c, fuse(0, 1, tears...), step(0, 2)), down(1, 0))
		isSeen(t, "restart", do(t, c, restart(0)), up(2, 0, 0))
		again := len(sentKind(t, do(t, c, calm(100)), 0, api.KPrepare)) > 0
		if again != (tears == nil) {
			t.Errorf("with the tears %v it sends KPrepare: %v", tears, again)
		}
	}
}

func TestExample5(t *testing.T) {
	c := begun(t, example())
	for n := range 3 {
		do(t, c, forge(700, n, datagram(t, request(1, transfer(5)...))...), forge(700, n, 1, 2, 3))
	}
	seen := do(t, c, calm(12))
	if ran := ofKind(seen, api.SRan); len(ran) != 3 || !same(ran[0].Batch.Reqs, []api.Request{{Client: 700, Seq: 1, Cmd: transfer(5)}}) {
		t.Errorf("ran %+v", ran)
	}
	if replied := ofKind(seen, api.SReplied); replied != nil {
		t.Errorf("nobody plays client 700: %+v", replied)
	}
	if s := c.Node(1).Machine.Sessions; len(s) != 1 || s[0].Client != 700 || s[0].Code != api.ErrDealRole {
		t.Errorf("sessions %+v", s)
	}
}

// DOC.md's second example: a deal with terms.
func TestDocExample2(t *testing.T) {
	s := with(func(s *api.Setup) {
		s.Clients = append(s.Clients, api.ClientSetup{Id: 257, Resend: 5})
	})
	c := begun(t, s)
	asks := func(client uint64, cmd api.Cmd) api.Reply {
		t.Helper()
		do(t, c, send(client, packed(t, cmd)...), calm(20))
		if k := c.Client(client); k.Waits || k.Last.Seq != k.Seq {
			t.Fatalf("%+v is not answered: %+v", cmd, k)
		}
		return c.Client(client).Last
	}
	words := func(list ...byte) []byte {
		b := make([]byte, 8*len(list))
		for i, x := range list {
			b[8*i+7] = x
		}
		return b
	}
	open := api.Cmd{Verb: api.VOpen, Deal: 7, Acct: 1, To: 2, Arbiter: 3, Amount: 50, Due: 900, Terms: "on release { require caller == buyer, 7; pay share(held, 1, 10) to arbiter; }"}
	release := api.Cmd{Verb: api.VRelease, Deal: 7}
	for _, cmd := range []api.Cmd{open, {Verb: api.VFund, Deal: 7}} {
		if r := asks(256, cmd); r.Code != api.OK {
			t.Fatalf("%+v: %+v", cmd, r)
		}
	}
	if r := asks(257, release); r.Code != api.ErrDealRule || !same(r.Data, words(1, 7)) {
		t.Errorf("by the seller: %+v", r)
	}
	if r := asks(256, release); r.Code != api.OK || !same(r.Data, words(0, 45, 5)) {
		t.Errorf("by the buyer: %+v", r)
	}
}

// DOC.md's third: a leader that is gone.
func TestDocExample3(t *testing.T) {
	c := begun(t, example())
	do(t, c, stop(0), send(256, transfer(1)...))
	seen := do(t, c, calm(300))
	if k := c.Client(256); k.Waits || k.Last.Code != api.OK {
		t.Errorf("not answered: %+v", k)
	}
	if c.Node(1).View != bal(1, 1) || c.Node(2).View != bal(1, 1) {
		t.Errorf("views %v, %v", c.Node(1).View, c.Node(2).View)
	}
	for _, kind := range []api.Kind{api.KPrepare, api.KLead, api.KPropose} {
		if list := sentKind(t, seen, 1, kind); len(list) < 3 || list[0].Bal != bal(1, 1) {
			t.Errorf("kind %d: %+v", kind, list)
		}
	}
}

// DOC.md's eighth: a replica that fell behind takes over a snapshot.
func TestDocExample8(t *testing.T) {
	c := begun(t, with(func(s *api.Setup) { s.Config.Window, s.Config.Every = 2, 2 }))
	do(t, c, fuse(2, 0))
	for i := range 9 {
		do(t, c, send(256, transfer(byte(1+i))...), calm(20))
	}
	if k := c.Node(0); k.Slot != 9 || c.Node(2).How != api.NodeCrashed {
		t.Fatalf("%+v, %+v", k, c.Node(2))
	}
	seen := do(t, c, restart(2), calm(60))
	if list := ofKind(seen, api.SInstall); len(list) != 1 || list[0].Node != 2 || list[0].Slot != 8 {
		t.Errorf("taken over: %+v", list)
	}
	if list := ofKind(seen, api.SRan); len(list) != 1 || list[0].Node != 2 || list[0].Slot != 8 {
		t.Errorf("it runs on: %+v", list)
	}
	if !same(c.Node(2).Machine, c.Node(1).Machine) {
		t.Errorf("%+v, want %+v", c.Node(2).Machine, c.Node(1).Machine)
	}
}

// chain tells the layers and places of a fault's chain.
func chain(err error) (layers []string, places []int) {
	var f *api.Fault
	for errors.As(err, &f) {
		layers, places, err = append(layers, f.Layer), append(places, f.At), f.Err
	}
	return layers, places
}

// DOC.md's ninth and tenth: what the layers below refuse of a setup.
func TestDocExample9And10(t *testing.T) {
	_, err := cluster.New(with(func(s *api.Setup) { s.Config.F = 4 }))
	layers, places := chain(err)
	if !same(layers, []string{"cluster", "replica", "ballot"}) || !same(places, []int{0, 0, 0}) || !errors.Is(err, api.ErrBallotConfig) {
		t.Errorf("F 4: %v", err)
	}
	_, err = cluster.New(with(func(s *api.Setup) { s.Accounts = []api.Account{{ID: 1, Owner: 256, Balance: 5, Cap: 4}} }))
	layers, places = chain(err)
	if !same(layers, []string{"cluster", "replica", "session", "deal", "ledger"}) || !same(places, []int{0, 3, 0, 0, 0}) || !errors.Is(err, api.ErrLedgerCap) {
		t.Errorf("more than its cap: %v", err)
	}
}

// The README's lines on this package.
func TestReadme(t *testing.T) {
	setup := api.Setup{
		Config:   api.Config{F: 1, MaxBatch: 4, Window: 4, Every: 2, Beat: 3, Epoch: 20, EpochMax: 80, MaxNum: 1000, MaxSlot: 1000},
		Accounts: []api.Account{{ID: 1, Owner: 300, Balance: 100, Cap: 500}, {ID: 2, Owner: 301, Cap: 500}},
		Clients:  []api.ClientSetup{{Id: 300, Resend: 5}},
	}
	c, err := cluster.New(setup)
	if err != nil {
		t.Fatal(err)
	}
	cmd := packed(t, api.Cmd{Verb: api.VTransfer, Acct: 1, To: 2, Amount: 30})
	seen, err := c.Do(api.Event{Kind: api.ESend, Client: 300, Data: cmd})
	if err != nil || len(seen) != 4 || len(c.Flight()) != 3 {
		t.Errorf("%+v, %v", seen, err)
	}
	do(t, c, api.Event{Kind: api.EDrop, Index: 2})
	do(t, c, api.Event{Kind: api.EFuse, Node: 1, Count: 3, Tears: []api.WalTear{{File: 1, Keep: 40, Flip: -1}}})
	seen = do(t, c, api.Event{Kind: api.ECalm, Count: 20})
	if list := ofKind(seen, api.SDown); len(list) != 1 || list[0].Node != 1 || c.Node(1).How != api.NodeCrashed {
		t.Errorf("replica 1: %+v", list)
	}
	if c.Client(300).Waits || c.Client(300).Last.Code != api.OK || len(ofKind(seen, api.SReplied)) != 1 {
		t.Errorf("%+v", c.Client(300))
	}
	do(t, c, api.Event{Kind: api.ERestart, Node: 1})
	do(t, c, api.Event{Kind: api.ECalm, Count: 20})
	for n := range 3 {
		if k := c.Node(n); k.Slot != 1 || k.Machine.House.Book.Accounts[1].Balance != 30 {
			t.Errorf("replica %d: %+v", n, k)
		}
	}
	if cluster.Bound(setup) != 17728 {
		t.Errorf("Bound: %d", cluster.Bound(setup))
	}
}
