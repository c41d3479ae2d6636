package cluster_test

import (
	"errors"
	"reflect"
	"testing"

	"quorum/api"
	"quorum/cluster"
	"quorum/deal"
	"quorum/wal"
	"quorum/wire"
)

const most = 1<<64 - 1

// example is the setup of the chapter's examples.
func example() api.Setup {
	return api.Setup{
		Config: api.Config{F: 1, MaxBatch: 4, Delay: 0, Window: 4, Every: 2, Beat: 3, Epoch: 20, EpochMax: 80, MaxNum: 1000, MaxSlot: 1000},
		Accounts: []api.Account{
			{ID: 1, Owner: 256, Balance: 100, Cap: 1000},
			{ID: 2, Owner: 257, Balance: 0, Cap: 1000},
			{ID: 3, Owner: 258, Balance: 20, Cap: 1000},
		},
		Clients: []api.ClientSetup{{Id: 256, Resend: 5}},
	}
}

// with is that setup with a change.
func with(change func(s *api.Setup)) api.Setup {
	s := example()
	change(&s)
	return s
}

// three gives a setup two more clients.
func three(s *api.Setup) {
	s.Clients = append(s.Clients, api.ClientSetup{Id: 257, Resend: 9}, api.ClientSetup{Id: 258, Resend: 1})
}

// same is equality to the last bit: nil is not an empty list.
func same(a, b any) bool { return reflect.DeepEqual(a, b) }

func begun(t testing.TB, s api.Setup) *cluster.Cluster {
	t.Helper()
	c, err := cluster.New(s)
	if c == nil || err != nil {
		t.Fatalf("New(%+v): %v", s, err)
	}
	return c
}

// do plays events, none of which is refused, and tells all that was seen.
func do(t testing.TB, c *cluster.Cluster, events ...api.Event) []api.Seen {
	t.Helper()
	var all []api.Seen
	for _, e := range events {
		seen, err := c.Do(e)
		if err != nil {
			t.Fatalf("Do(%+v): %v", e, err)
		}
		all = append(all, seen...)
	}
	return all
}

// quiet wants nothing to be seen at events.
func quiet(t testing.TB, what string, c *cluster.Cluster, events ...api.Event) {
	t.Helper()
	if seen := do(t, c, events...); seen != nil {
		t.Errorf("%s: seen %+v", what, seen)
	}
}

// The events.
func deliver(at int) api.Event { return api.Event{Kind: api.EDeliver, Index: at} }

func drop(at int) api.Event { return api.Event{Kind: api.EDrop, Index: at} }

func double(at int) api.Event { return api.Event{Kind: api.ECopy, Index: at} }

func forge(client uint64, node int, data ...byte) api.Event {
	return api.Event{Kind: api.EForge, Client: client, Node: node, Data: data}
}

func tick(node int, count uint64) api.Event {
	return api.Event{Kind: api.ETick, Node: node, Count: count}
}

func step(node int, count uint64) api.Event {
	return api.Event{Kind: api.EStep, Node: node, Count: count}
}

func stop(node int) api.Event { return api.Event{Kind: api.EStop, Node: node} }

func crash(node int, tears ...api.WalTear) api.Event {
	return api.Event{Kind: api.ECrash, Node: node, Tears: tears}
}

func restart(node int) api.Event { return api.Event{Kind: api.ERestart, Node: node} }

func fuse(node int, count uint64, tears ...api.WalTear) api.Event {
	return api.Event{Kind: api.EFuse, Node: node, Count: count, Tears: tears}
}

func send(client uint64, cmd ...byte) api.Event {
	return api.Event{Kind: api.ESend, Client: client, Data: cmd}
}

func again(client uint64) api.Event { return api.Event{Kind: api.EAgain, Client: client} }

func calm(rounds uint64) api.Event { return api.Event{Kind: api.ECalm, Count: rounds} }

// whole is the tear that leaves all of a file's tail.
func whole(file uint64) api.WalTear { return api.WalTear{File: file, Keep: 1 << 30, Flip: -1} }

// packed gives the bytes of a command.
func packed(t testing.TB, cmd api.Cmd) []byte {
	t.Helper()
	b, err := deal.Pack(cmd)
	if err != nil {
		t.Fatalf("Pack(%+v): %v", cmd, err)
	}
	return b
}

// transfer is the command that moves so much from account 1 to account 2.
func transfer(amount byte) []byte { return []byte{byte(api.VTransfer), 1, 2, amount} }

// datagram gives the bytes of a message.
func datagram(t testing.TB, m api.Msg) []byte {
	t.Helper()
	b, err := wire.EncodeMsg(m)
	if err != nil {
		t.Fatalf("EncodeMsg(%+v): %v", m, err)
	}
	return b
}

// message reads a datagram.
func message(t testing.TB, b []byte) api.Msg {
	t.Helper()
	m, err := wire.DecodeMsg(b)
	if err != nil {
		t.Fatalf("DecodeMsg(%x): %v", b, err)
	}
	return m
}

func request(seq uint64, cmd ...byte) api.Msg {
	return api.Msg{Kind: api.KRequest, Seq: seq, Cmd: cmd}
}

func bal(num uint64, node int) api.Ballot { return api.Ballot{Num: num, Node: node} }

// sentTo is what is seen of a message that is sent.
func sentTo(t testing.TB, event int, from, to api.Addr, m api.Msg) api.Seen {
	t.Helper()
	return api.Seen{Event: event, Kind: api.SSent, From: from, To: to, Data: datagram(t, m)}
}

// sentToAll is what is seen of a message that is sent to each of n replicas.
func sentToAll(t testing.TB, event int, from api.Addr, n int, m api.Msg) []api.Seen {
	t.Helper()
	var list []api.Seen
	for to := range n {
		list = append(list, sentTo(t, event, from, api.Addr(to), m))
	}
	return list
}

// ofKind gives what was seen of one kind.
func ofKind(seen []api.Seen, kind api.SeenKind) []api.Seen {
	var list []api.Seen
	for _, s := range seen {
		if s.Kind == kind {
			list = append(list, s)
		}
	}
	return list
}

// sentKind gives the messages of one kind that were sent by an address.
func sentKind(t testing.TB, seen []api.Seen, from api.Addr, kind api.Kind) []api.Msg {
	t.Helper()
	var list []api.Msg
	for _, s := range ofKind(seen, api.SSent) {
		if m := message(t, s.Data); s.From == from && m.Kind == kind {
			list = append(list, m)
		}
	}
	return list
}

func isSeen(t testing.TB, what string, got, want []api.Seen) {
	t.Helper()
	if !same(got, want) {
		t.Errorf("%s: seen %+v, want %+v", what, got, want)
	}
}

// isFlight wants just these addresses to be those of the packets in flight: from, to, from, to ..
func isFlight(t testing.TB, what string, c *cluster.Cluster, want ...api.Addr) {
	t.Helper()
	var got []api.Addr
	for _, p := range c.Flight() {
		got = append(got, p.From, p.To)
	}
	if !same(got, want) {
		t.Errorf("%s: in flight %v, want %v", what, got, want)
	}
}

// isFault wants a fault of this layer with just that behind it, and that place.
func isFault(t testing.TB, what string, err error, why error, at int) {
	t.Helper()
	f, ok := err.(*api.Fault)
	if !ok || f == nil {
		t.Errorf("%s: %v is no fault, want %v at %d", what, err, why, at)
		return
	}
	if f.Layer != "cluster" || f.At != at || !same(f.Err, why) || !errors.Is(err, f.Err) {
		t.Errorf("%s: refused with %v, want %v at %d", what, err, why, at)
	}
}

// look is all that is to be seen of a cluster from outside.
type look struct {
	flight  []api.Packet
	nodes   []api.NodeLook
	disks   []api.DiskImage
	clients []api.ClientLook
}

func lookAt(c *cluster.Cluster, s api.Setup) look {
	l := look{flight: c.Flight()}
	for n := range 2*s.Config.F + 1 {
		l.nodes, l.disks = append(l.nodes, c.Node(n)), append(l.disks, c.Disk(n))
	}
	for _, a := range s.Clients {
		l.clients = append(l.clients, c.Client(a.Id))
	}
	return l
}

// recordsOf gives the records that a disk has kept when it has crashed with these tears.
func recordsOf(t testing.TB, img api.DiskImage, tears ...api.WalTear) []api.Record {
	t.Helper()
	d, err := wal.LoadDisk(img)
	if err != nil {
		t.Fatal(err)
	}
	d.Crash(tears)
	_, bodies, err := wal.Open(d)
	if err != nil {
		t.Fatal(err)
	}
	var recs []api.Record
	for _, b := range bodies {
		r, err := wire.DecodeRecord(b)
		if err != nil {
			t.Fatal(err)
		}
		recs = append(recs, r)
	}
	return recs
}

// below tells whether a ballot is below another.
func below(a, b api.Ballot) bool { return a.Num < b.Num || a.Num == b.Num && a.Node < b.Node }

// dice gives numbers that look like any, the same ones in every run.
type dice struct{ state uint64 }

func (d *dice) next() uint64 {
	d.state = d.state*6364136223846793005 + 1442695040888963407
	return d.state ^ d.state>>29
}

// below gives a number from 0 to n-1.
func (d *dice) below(n int) int { return int(d.next() >> 3 % uint64(n)) }

func one[E any](d *dice, list ...E) E { return list[d.below(len(list))] }
