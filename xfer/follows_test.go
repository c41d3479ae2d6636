package xfer_test

import (
	"bytes"
	"slices"
	"strings"
	"testing"

	"quorum/api"
	"quorum/deal"
	"quorum/session"
	"quorum/snap"
	"quorum/xfer"
)

// packet is a message on its way.
type packet struct {
	src, to api.Addr
	m       api.Msg
}

// world is a few replicas, each with a supplier and a fetcher, and a network that loses, doubles, keeps back and mixes. For each slot there is one snapshot.
type world struct {
	t         *testing.T
	c         api.Config
	d         *dice
	suppliers []*xfer.Supplier
	fetchers  []*xfer.Fetcher
	have      []uint64 // how far each replica has run
	net       []packet
	happened  counts
}

func newWorld(t *testing.T, c api.Config, d *dice, happened counts) *world {
	w := &world{t: t, c: c, d: d, happened: happened}
	for n := range 2*c.F + 1 {
		w.suppliers = append(w.suppliers, supplierOf(t, c, n))
		w.fetchers = append(w.fetchers, fetcherOf(t, c, n))
		w.have = append(w.have, 0)
	}
	return w
}

// snapshotOf is the one snapshot of a slot.
func snapshotOf(slot uint64) []byte {
	return bytesOf(slot, 1+int(slot*slot*977)%6000)
}

func (w *world) send(src int, sends []api.Send) {
	for _, s := range sends {
		w.net = append(w.net, packet{api.Addr(src), s.To, s.Msg})
	}
}

// arrive takes any packet, and may leave it to come again.
func (w *world) arrive(now uint64) {
	if len(w.net) == 0 {
		return
	}
	at := w.d.below(len(w.net))
	p := w.net[at]
	if w.d.below(4) > 0 {
		w.net = slices.Delete(w.net, at, at+1)
	}
	if w.d.below(8) == 0 {
		return
	}
	to := int(p.to)
	w.send(to, w.suppliers[to].Want(p.src, p.m))
	w.send(to, w.fetchers[to].Give(p.src, p.m, now))
}

// grow lets a replica have a later snapshot, and may tell another one of it, or of one that nobody has.
func (w *world) grow(now uint64) {
	n := w.d.below(len(w.suppliers))
	slot := w.suppliers[n].State().Slot + uint64(w.d.below(3))
	if slot > 0 && slot <= w.c.MaxSlot {
		put(w.t, w.suppliers[n], slot, snapshotOf(slot))
	}
	to := w.d.below(len(w.fetchers))
	w.send(to, w.fetchers[to].Aim(api.Addr(n), slot+uint64(w.d.below(4)/3), w.have[to], now))
}

// look wants what any fetcher has ready to be the snapshot of its slot, and now and then takes it over.
func (w *world) look(n int) {
	w.t.Helper()
	slot, data, ok := w.fetchers[n].Ready()
	if !ok {
		return
	}
	if !bytes.Equal(data, snapshotOf(slot)) {
		w.t.Fatalf("slot %d is ready with %d bytes that nobody has put", slot, len(data))
	}
	w.happened["ready"]++
	if len(data) > 1024 {
		w.happened["ready with more than one chunk"]++
	}
	if w.d.below(3) == 0 {
		w.have[n] = slot
		w.fetchers[n].Drop(slot)
		w.happened["taken over"]++
	}
}

// Whatever the network does, and whatever the goals are: what is ready is what was put.
func TestP14_12WhatWasPut(t *testing.T) {
	happened := counts{}
	for run := range 60 {
		d := &dice{uint64(run)}
		w := newWorld(t, withF(1+run%3), d, happened)
		for now := range uint64(600) {
			switch n := d.below(len(w.fetchers)); d.below(8) {
			case 0:
				w.grow(now)
			case 1:
				w.send(n, w.fetchers[n].Tick(now))
			case 2:
				w.look(n)
			default:
				w.arrive(now)
			}
		}
	}
	for what, least := range map[string]int{"ready": 500, "ready with more than one chunk": 200, "taken over": 100} {
		if happened[what] < least {
			t.Errorf("%s: only %d times", what, happened[what])
		}
	}
}

// rounds takes each send to its peer and each answer back, until nothing is sent, and tells how often.
func rounds(f *xfer.Fetcher, self api.Addr, suppliers map[api.Addr]*xfer.Supplier, sends []api.Send) int {
	n := 0
	for ; len(sends) > 0; n++ {
		var next []api.Send
		for _, s := range sends {
			for _, back := range suppliers[s.To].Want(self, s.Msg) {
				next = append(next, f.Give(s.To, back.Msg, 0)...)
			}
		}
		sends = next
	}
	return n
}

// Snapshots of every number of chunks are there behind as many rounds, whoever has them.
func TestP14_13Comes(t *testing.T) {
	for chunks := 1; chunks <= 40; chunks++ {
		c := withF(1 + chunks%3)
		n := 2*c.F + 1
		for _, size := range []int{1024*chunks - 1023, min(1024*chunks, 40000)} {
			data := bytesOf(uint64(chunks), size)
			self := chunks % n
			for _, peer := range peers(n, self) {
				s, f := supplierOf(t, c, int(peer)), fetcherOf(t, c, self)
				put(t, s, 8, data)
				got := rounds(f, api.Addr(self), map[api.Addr]*xfer.Supplier{peer: s}, f.Aim(peer, 8, 0, 0))
				slot, ready, ok := f.Ready()
				if slot != 8 || !bytes.Equal(ready, data) || !ok || got != chunks {
					t.Fatalf("%d bytes: slot %d, %d bytes, %v, behind %d rounds", size, slot, len(ready), ok, got)
				}
			}
		}
	}
}

// The same wherever the fetch stood: as many rounds from the new goal on; and where only a later snapshot is left, as many as that has chunks.
func TestP14_13FromAnywhere(t *testing.T) {
	data := bytesOf(5, 7000)
	for _, aim := range []uint64{9, 19, 20} {
		for what, f := range standing(t) {
			s := having(t, 2, 20, data)
			got := rounds(f, 0, map[api.Addr]*xfer.Supplier{2: s}, f.Aim(2, aim, 5, 0))
			slot, ready, ok := f.Ready()
			if slot != 20 || !bytes.Equal(ready, data) || !ok || got != 7 {
				t.Errorf("%s, aimed at %d: slot %d, %d bytes, %v, behind %d rounds", what, aim, slot, len(ready), ok, got)
			}
		}
	}
}

// A supplier that turns to a later snapshot half way: that one comes.
func TestP14_13Overtaken(t *testing.T) {
	data, later := bytesOf(5, 7000), bytesOf(6, 3000)
	for n := range 7 {
		s, f := having(t, 1, 8, data), taken(t, data, n)
		sends := sent(1, want(8, uint64(n)))
		put(t, s, 12, later)
		if got := rounds(f, 0, map[api.Addr]*xfer.Supplier{1: s}, sends); got != 3 {
			t.Errorf("behind %d rounds", got)
		}
		if slot, ready, ok := f.Ready(); slot != 12 || !bytes.Equal(ready, later) || !ok {
			t.Errorf("with %d chunks: slot %d, %d bytes, %v", n, slot, len(ready), ok)
		}
	}
}

// images are states of all sizes: empty, of a machine that has run, and the greatest.
func images(t *testing.T) map[string]api.Image {
	full := api.Image{Slot: 100, Now: api.MaxTick}
	full.House.Book.Total, full.House.Book.Next, full.House.Ends = most, most, most
	for i := range uint64(64) {
		up := most - 63 + i
		full.House.Book.Accounts = append(full.House.Book.Accounts, api.Account{ID: up, Owner: most, Balance: most, Cap: most})
		full.House.Book.Holds = append(full.House.Book.Holds, api.Hold{ID: up, From: most, Amount: most})
		full.House.Book.Journal = append(full.House.Book.Journal, api.Entry{Seq: up, Kind: 5, From: most, To: most, Amount: most})
	}
	for i := range uint64(32) {
		full.House.Deals = append(full.House.Deals, api.Deal{ID: most - 31 + i, Buyer: most, Seller: most, Arbiter: most, Amount: most, Opened: most, Due: most, Phase: 8, Paid: [3]uint64{most, most, most}, End: most, Terms: strings.Repeat("\xff", 512)})
	}
	for i := range uint64(16) {
		full.Sessions = append(full.Sessions, api.Session{Client: most - 15 + i, Seq: most, Stamp: most, Code: 1023, Data: slices.Repeat([]byte{200}, 256)})
	}
	half := full
	half.House.Deals, half.Sessions = full.House.Deals[:9], full.Sessions[:3]
	return map[string]api.Image{"empty": {}, "run": machine(t).Image(), "half": half, "full": full}
}

// machine is one that has run a few batches.
func machine(t *testing.T) *session.Machine {
	t.Helper()
	m, err := session.New([]api.Account{{ID: 1, Owner: 300, Balance: 500, Cap: 900}, {ID: 2, Owner: 301, Cap: 900}, {ID: 3, Owner: 302, Cap: 50}})
	if err != nil {
		t.Fatal(err)
	}
	for i := range uint64(8) {
		open := api.Cmd{Verb: api.VOpen, Deal: 7 + i, Acct: 1, To: 2, Arbiter: 3, Amount: 20, Due: 90, Terms: "on release { pay 6 to arbiter; }" + strings.Repeat(" ", 300)}
		for at, c := range []api.Cmd{open, {Verb: api.VFund, Deal: 7 + i}} {
			cmd, err := deal.Pack(c)
			if err != nil {
				t.Fatal(err)
			}
			if _, err := m.Batch(api.Batch{Stamp: 5 + i, Reqs: []api.Request{{Client: 300, Seq: 2*i + 1 + uint64(at), Cmd: cmd}}}); err != nil {
				t.Fatal(err)
			}
		}
	}
	return m
}

// An image that is packed, put, fetched from peers that take turns, and unpacked, is that image.
func TestP14_14StateTravels(t *testing.T) {
	for what, img := range images(t) {
		data, err := snap.Pack(img)
		if err != nil {
			t.Fatal(what, err)
		}
		for self := range 5 {
			all := map[api.Addr]*xfer.Supplier{}
			for _, peer := range peers(5, self) {
				all[peer] = supplierOf(t, withF(2), int(peer))
				put(t, all[peer], 100, data)
			}
			f := fetcherOf(t, withF(2), self)
			sends := f.Aim(peers(5, self)[0], 100, 99, 0)
			heard := map[api.Addr]int{}
			for now := uint64(6); len(sends) > 0; now += 6 {
				sends = f.Tick(now) // what was asked before is lost: the next peer is asked
				peer := sends[0].To
				heard[peer]++
				sends = f.Give(peer, all[peer].Want(api.Addr(self), sends[0].Msg)[0].Msg, now)
			}
			slot, ready, ok := f.Ready()
			if slot != 100 || !ok || len(heard) != min(4, len(cut(data))) {
				t.Fatalf("%s: slot %d, %v, from %d peers", what, slot, ok, len(heard))
			}
			if got, err := snap.Unpack(ready); err != nil || !same(got, img) {
				t.Errorf("%s: another image, %v", what, err)
			}
		}
	}
}

// The same for a machine: what it becomes elsewhere goes on as the first one does.
func TestP14_14MachineTravels(t *testing.T) {
	m := machine(t)
	data, err := m.Snapshot()
	if err != nil || len(cut(data)) < 3 {
		t.Fatalf("%d bytes, %v", len(data), err)
	}
	s, f := having(t, 2, m.Slot(), data), fetcherOf(t, small(), 0)
	rounds(f, 0, map[api.Addr]*xfer.Supplier{2: s}, f.Aim(2, m.Slot(), 0, 0))
	_, ready, _ := f.Ready()
	twin, err := session.Load(ready)
	if err != nil {
		t.Fatal(err)
	}
	if !same(twin.Image(), m.Image()) {
		t.Error("another machine")
	}
	cmd, _ := deal.Pack(api.Cmd{Verb: api.VRelease, Deal: 9})
	b := api.Batch{Stamp: 50, Reqs: []api.Request{{Client: 301, Seq: 1, Cmd: cmd}, {Client: 300, Seq: 16, Cmd: cmd}}}
	first, err1 := m.Batch(b)
	again, err2 := twin.Batch(b)
	if err1 != nil || err2 != nil || len(first) != 2 || first[0].Code != api.OK || !same(first, again) || !same(twin.Image(), m.Image()) {
		t.Errorf("%+v %v, %+v %v", first, err1, again, err2)
	}
}
