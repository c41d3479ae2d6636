package cluster_test

import (
	"testing"

	"quorum/api"
	"quorum/cluster"
)

// led gives a cluster in which replica 0 leads {1 0}, nothing is in flight and no heartbeat is due; how many events there were.
func led(t testing.TB, s api.Setup) (*cluster.Cluster, int) {
	t.Helper()
	c := begun(t, s)
	seen := do(t, c, calm(6))
	if len(sentKind(t, seen, 0, api.KLead)) != 2*s.Config.F+1 {
		t.Fatalf("replica 0 does not lead: %+v", seen)
	}
	n := len(c.Flight())
	for range n {
		do(t, c, drop(0))
	}
	return c, 1 + n
}

// A replica's actions one by one; what one answers is durable and sent.
func TestP16_2Actions(t *testing.T) {
	c := begun(t, example())
	quiet(t, "no packet", c, step(0, 1))
	prepare, beat := api.Msg{Kind: api.KPrepare, Bal: bal(1, 0)}, api.Msg{Kind: api.KBeat, Bal: bal(1, 0)}
	isSeen(t, "enter", do(t, c, step(0, 1)), sentToAll(t, 1, 0, 3, prepare))
	isFlight(t, "enter", c, 0, 0, 0, 1, 0, 2)
	if recs := recordsOf(t, c.Disk(0)); !same(recs, []api.Record{{Kind: api.RStart, Bal: bal(1, 0)}}) {
		t.Errorf("enter: its disk has %+v", recs)
	}
	quiet(t, "nothing to do", c, step(0, 0), step(0, 6))
	isSeen(t, "beat", do(t, c, step(0, 1)), append(sentToAll(t, 4, 0, 3, beat), sentToAll(t, 4, 0, 3, prepare)...))
	quiet(t, "its own packets are on their way", c, step(0, 9))
	quiet(t, "no heartbeat is due", c, step(0, 20))
	isSeen(t, "another", do(t, c, step(2, 9)), sentToAll(t, 7, 2, 3, beat))
	if c.Node(0).Clock != 0 || len(c.Flight()) != 12 {
		t.Errorf("%+v, %d in flight", c.Node(0), len(c.Flight()))
	}
}

// So many actions at one event are so many events of one.
func TestP16_2StepsOneByOne(t *testing.T) {
	s := shapes()[0]
	c, x := begun(t, s), begun(t, s)
	events := []api.Event{send(256, transfer(1)...), calm(9), tick(-1, 9), send(257, transfer(1)...), step(0, 13), step(1, 47), step(2, 10)}
	for range 30 {
		events = append(events, deliver(0), deliver(1), step(0, 17), deliver(0), step(1, 23), deliver(0), step(2, 10), tick(1, 1))
	}
	for _, e := range events {
		got := do(t, c, e)
		want := 1
		if e.Kind == api.EStep {
			want, e.Count = int(e.Count), 1
		}
		var seen []api.Seen
		for range want {
			seen = append(seen, do(t, x, e)...)
		}
		if !same(eventless(got), eventless(seen)) || !same(lookAt(c, s), lookAt(x, s)) {
			t.Fatalf("%+v: %+v, want %+v", e, got, seen)
		}
	}
}

// eventless gives what was seen without the events' places.
func eventless(seen []api.Seen) []api.Seen {
	list := append([]api.Seen(nil), seen...)
	for i := range list {
		list[i].Event = 0
	}
	return list
}

// The first action takes one packet, the first that fits; the others take none.
func TestP16_2OnePacketATurn(t *testing.T) {
	c, at := led(t, example())
	for i := range 3 {
		do(t, c, forge(300, 0, datagram(t, request(uint64(1+i), transfer(1)...))...), deliver(0))
	}
	at += 6
	quiet(t, "the first", c, step(0, 1))
	isInbox(t, "the first", c, 2)
	batch := api.Batch{Stamp: 6, Reqs: []api.Request{{Client: 300, Seq: 1, Cmd: transfer(1)}}}
	propose := api.Msg{Kind: api.KPropose, Bal: bal(1, 0), Batch: batch}
	isSeen(t, "nominate", do(t, c, step(0, 9)), sentToAll(t, at+1, 0, 3, propose))
	isInbox(t, "no other action takes one", c, 2)
	quiet(t, "the second", c, step(0, 1))
	isInbox(t, "the second", c, 1)
	do(t, c, step(0, 10))
	isInbox(t, "the third", c, 0)
}

// unfit are datagrams that do not fit when they come from a client's address.
func unfit(t testing.TB) map[string][]byte {
	t.Helper()
	all := map[string][]byte{"no bytes": nil, "some bytes": []byte("QM and so on"), "long": make([]byte, api.MaxFrame)}
	batch := api.Batch{Stamp: 1, Reqs: []api.Request{{Client: 300, Seq: 1}}}
	for what, m := range map[string]api.Msg{
		"reply":   {Kind: api.KReply, Seq: 1},
		"prepare": {Kind: api.KPrepare, Bal: bal(9, 0)},
		"promise": {Kind: api.KPromise, Bal: bal(1, 0)},
		"lead":    {Kind: api.KLead, Bal: bal(9, 1), Low: 8},
		"propose": {Kind: api.KPropose, Bal: bal(1, 0), Batch: batch},
		"accept":  {Kind: api.KAccept, Bal: bal(1, 0), Batch: batch},
		"beat":    {Kind: api.KBeat, Bal: bal(9, 1), Slot: 8, Suspect: true},
		"want":    {Kind: api.KWant},
		"give":    {Kind: api.KGive, Slot: 4, Count: 1, Data: []byte{1}},
	} {
		all[what] = datagram(t, m)
	}
	whole := datagram(t, request(1, transfer(1)...))
	all["cut"] = whole[:len(whole)-1]
	all["longer"] = append(append([]byte(nil), whole...), 0)
	return all
}

// Nothing comes of packets that do not fit; all of them that lie ahead of one that does are gone with it.
func TestP16_2Unfit(t *testing.T) {
	s := example()
	for what, data := range unfit(t) {
		for _, from := range []uint64{256, 300, most} {
			c, _ := led(t, s)
			was := lookAt(c, s)
			do(t, c, forge(from, 0, data...), deliver(0), forge(from, 0, data...), deliver(0))
			isInbox(t, what, c, 2)
			quiet(t, what, c, step(0, 1))
			isInbox(t, what, c, 0)
			quiet(t, what, c, step(0, 99))
			if got := lookAt(c, s); !same(got, was) {
				t.Errorf("%s from %d: %+v, was %+v", what, from, got, was)
			}
			do(t, c, forge(from, 0, data...), deliver(0), forge(301, 0, datagram(t, request(1))...), deliver(0), forge(from, 0, data...), deliver(0))
			seen := do(t, c, step(0, 11))
			if got := sentKind(t, seen, 0, api.KPropose); len(got) != 3 || !same(got[0].Batch.Reqs, []api.Request{{Client: 301, Seq: 1}}) {
				t.Errorf("%s ahead of a request: %+v", what, seen)
			}
			isInbox(t, what, c, 0)
		}
	}
}

// A datagram that is cut, or changed in a run of at most 32 bits, never becomes another message (W9).
func TestP16_7ChangedDatagrams(t *testing.T) {
	s := example()
	whole := datagram(t, request(1, transfer(1)...))
	d := &dice{7}
	c, _ := led(t, s)
	was := lookAt(c, s)
	for range 1000 {
		data := append([]byte(nil), whole...)
		from := d.below(8 * len(data))
		for bit := range 1 + d.below(32) {
			if at := from + bit; at < 8*len(data) && (bit == 0 || d.below(2) == 0) {
				data[at/8] ^= 1 << (at % 8)
			}
		}
		if d.below(5) == 0 {
			data = whole[:d.below(len(whole))]
		}
		quiet(t, "changed", c, forge(300, 0, data...), deliver(0), step(0, 10))
	}
	if got := lookAt(c, s); !same(got, was) {
		t.Errorf("changed: %+v, was %+v", got, was)
	}
}

// A replica acts by its host's clock.
func TestP16_2TheClocksReading(t *testing.T) {
	c, _ := led(t, example())
	do(t, c, tick(0, 71), tick(1, 1000), forge(300, 0, datagram(t, request(1))...), deliver(0))
	seen := do(t, c, step(0, 10))
	if got := sentKind(t, seen, 0, api.KPropose); len(got) < 3 || got[0].Batch.Stamp != 77 {
		t.Errorf("proposed at 77: %+v", got)
	}
	if len(sentKind(t, seen, 0, api.KBeat)) != 3 {
		t.Errorf("a heartbeat is due: %+v", seen)
	}
}

func TestP16_2Clocks(t *testing.T) {
	s := with(three)
	c := begun(t, s)
	clocks := func(what string, want ...uint64) {
		t.Helper()
		var got []uint64
		for n := range 3 {
			got = append(got, c.Node(n).Clock)
		}
		for _, a := range s.Clients {
			got = append(got, c.Client(a.Id).Clock)
		}
		if !same(got, want) {
			t.Errorf("%s: %v, want %v", what, got, want)
		}
	}
	clocks("fresh", 0, 0, 0, 0, 0, 0)
	quiet(t, "tick", c, tick(1, 7), tick(-1, 3), tick(2, 0))
	clocks("ticks", 3, 10, 3, 3, 3, 3)
	do(t, c, crash(0), stop(2))
	quiet(t, "tick", c, tick(0, 5), tick(2, 6))
	clocks("of those that are not up, too", 8, 10, 9, 3, 3, 3)
	quiet(t, "tick", c, tick(1, api.MaxTick-10))
	clocks("at its end", 8, api.MaxTick, 9, 3, 3, 3)
	quiet(t, "tick", c, tick(1, 1), tick(1, api.MaxTick), tick(0, api.MaxTick), tick(2, api.MaxTick-10))
	clocks("beyond it", api.MaxTick, api.MaxTick, api.MaxTick-1, 3, 3, 3)
	quiet(t, "tick", c, tick(-1, api.MaxTick-4))
	clocks("clients", api.MaxTick, api.MaxTick, api.MaxTick, api.MaxTick-1, api.MaxTick-1, api.MaxTick-1)
	do(t, c, calm(3))
	clocks("calm rounds", api.MaxTick, api.MaxTick, api.MaxTick, api.MaxTick, api.MaxTick, api.MaxTick)
}

// What has run is seen ahead of the replies; with a checkpoint the log has a new base (DOC.md, example 7).
func TestP16_2RunAndBase(t *testing.T) {
	c, _ := led(t, example())
	var last []api.Seen
	for i := range 4 {
		do(t, c, send(256, transfer(byte(1+i))...))
		last = do(t, c, calm(8))
		if c.Client(256).Waits {
			t.Fatalf("request %d is not answered", i)
		}
	}
	for n := range 3 {
		var own []api.Seen
		for _, s := range last {
			if s.Kind == api.SRan && s.Node == n || s.Kind == api.SSent && s.From == api.Addr(n) && message(t, s.Data).Kind == api.KReply {
				own = append(own, s)
			}
		}
		if len(own) < 2 || own[0].Kind != api.SRan || own[0].Slot != 3 || own[1].Kind != api.SSent || own[1].To != 256 {
			t.Errorf("replica %d: seen %+v", n, own)
		}
		do(t, c, calm(4)) // the marks are heard
		img := c.Disk(n)
		if len(img.Files) != 1 || img.Files[0].Number != 3 || img.Files[0].Tail != nil {
			t.Errorf("replica %d has the files %+v", n, img.Files)
		}
		recs := recordsOf(t, img)
		if recs[0].Kind != api.RCheck || recs[0].Slot != 4 || recs[1].Kind != api.RPromise || recs[1].Bal != bal(1, 0) {
			t.Errorf("replica %d has the base %+v", n, recs)
		}
		starts := 0
		for _, r := range recs {
			if r.Kind == api.RStart {
				starts++
			}
		}
		if (starts > 0) != (n == 0) {
			t.Errorf("replica %d: %d RStart in %+v", n, starts, recs)
		}
		if k := c.Node(n); k.Slot != 4 || k.Mark != 4 || k.Low != 4 {
			t.Errorf("replica %d: %+v", n, k)
		}
	}
}
