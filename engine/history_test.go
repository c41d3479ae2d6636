package engine_test

import (
	"testing"

	"quorum/api"
	"quorum/engine"
)

func asked(event int, client, seq uint64, cmd ...byte) api.Seen {
	return api.Seen{Event: event, Kind: api.SAsked, Client: client, Seq: seq, Data: cmd}
}

func replied(event int, client, seq, stamp uint64, code api.Errno, data ...byte) api.Seen {
	return api.Seen{Event: event, Kind: api.SReplied, Client: client, Reply: api.Reply{Client: client, Seq: seq, Stamp: stamp, Code: code, Data: data}}
}

func ran(slot, stamp uint64, reqs ...api.Request) api.Seen {
	return api.Seen{Kind: api.SRan, Slot: slot, Batch: api.Batch{Stamp: stamp, Reqs: reqs}}
}

func request(client, seq uint64, cmd ...byte) api.Request {
	return api.Request{Client: client, Seq: seq, Cmd: cmd}
}

// isHistory wants just these calls, and those of a second gathering.
func isHistory(t testing.TB, what string, seen []api.Seen, want ...api.Call) {
	t.Helper()
	if got := engine.History(seen); !same(got, want) {
		t.Errorf("%s: %+v, want %+v", what, got, want)
	}
	if got := secondHistory(seen); !same(got, want) {
		t.Errorf("%s, gathered a second time: %+v, want %+v", what, got, want)
	}
}

func TestP18_4Nothing(t *testing.T) {
	isHistory(t, "nil", nil)
	isHistory(t, "empty", []api.Seen{})
	isHistory(t, "no calls", []api.Seen{{}, {Kind: api.SSent, Data: []byte{1}}, ran(0, 5), {Kind: api.SInstall, Slot: 3}, {Kind: api.SDown}, {Kind: api.SUp}, {Kind: 99, Client: 1, Seq: 1}, {Kind: -1}, replied(3, 256, 1, 4, 0)})
}

func TestP18_4Asked(t *testing.T) {
	isHistory(t, "one", []api.Seen{asked(3, 256, 1, 7, 8)}, api.Call{Client: 256, Seq: 1, Cmd: []byte{7, 8}, From: 3, To: -1})
	isHistory(t, "without a command", []api.Seen{asked(0, 256, 1), {Kind: api.SAsked, Event: 2, Data: []byte{}}},
		api.Call{Client: 256, Seq: 1, To: -1}, api.Call{From: 2, To: -1})
	isHistory(t, "in the order in which they were", []api.Seen{asked(1, 258, 4), asked(1, 256, 9), asked(2, 256, 8), asked(0, 257, 1)},
		api.Call{Client: 258, Seq: 4, From: 1, To: -1}, api.Call{Client: 256, Seq: 9, From: 1, To: -1}, api.Call{Client: 256, Seq: 8, From: 2, To: -1}, api.Call{Client: 257, Seq: 1, To: -1})
	isHistory(t, "of several the first", []api.Seen{asked(1, 256, 1, 1), asked(2, 256, 1, 2), asked(3, 257, 1, 3), asked(4, 256, 1, 4), asked(5, 1, 256, 5)},
		api.Call{Client: 256, Seq: 1, Cmd: []byte{1}, From: 1, To: -1}, api.Call{Client: 257, Seq: 1, Cmd: []byte{3}, From: 3, To: -1}, api.Call{Client: 1, Seq: 256, Cmd: []byte{5}, From: 5, To: -1})
}

func TestP18_4Replied(t *testing.T) {
	end := api.Call{Client: 256, Seq: 1, From: 1, To: 5, Stamp: 6, Code: 8, Data: []byte{4}}
	open := api.Call{Client: 256, Seq: 1, From: 1, To: -1}
	isHistory(t, "one", []api.Seen{asked(1, 256, 1), replied(5, 256, 1, 6, 8, 4)}, end)
	isHistory(t, "of several the first", []api.Seen{asked(1, 256, 1), replied(5, 256, 1, 6, 8, 4), replied(6, 256, 1, 7, 9, 5), replied(5, 256, 1, 6, 8)}, end)
	isHistory(t, "at the same event", []api.Seen{asked(1, 256, 1), replied(1, 256, 1, 0, 0)}, api.Call{Client: 256, Seq: 1, From: 1, To: 1})
	isHistory(t, "ahead of it", []api.Seen{replied(5, 256, 1, 6, 8, 4), asked(1, 256, 1)}, open)
	isHistory(t, "ahead of it and behind it", []api.Seen{replied(9, 256, 1, 9, 9, 9), asked(1, 256, 1), replied(5, 256, 1, 6, 8, 4)}, end)
	isHistory(t, "of another client, or another number", []api.Seen{asked(1, 256, 1), replied(5, 257, 1, 6, 8, 4), replied(5, 256, 2, 6, 8, 4), replied(5, 1, 256, 6, 8, 4)}, open)
	isHistory(t, "ahead of a second that is let go", []api.Seen{asked(1, 256, 1), replied(5, 256, 1, 6, 8, 4), asked(6, 256, 1, 9), replied(7, 256, 1, 1, 1, 1)}, end)
	isHistory(t, "behind a second that is let go", []api.Seen{asked(1, 256, 1), asked(2, 256, 1, 9), replied(5, 256, 1, 6, 8, 4)}, end)
	other := replied(5, 256, 1, 6, 8, 4)
	other.Reply.Client, other.Seq = 999, 7 // what the reply is to is told by the client that took it, and by the reply's number
	isHistory(t, "a reply that names another client", []api.Seen{asked(1, 256, 1), other}, end)
	other = replied(5, 999, 1, 6, 8, 4)
	other.Reply.Client, other.Seq = 256, 1
	isHistory(t, "a reply that another client took", []api.Seen{asked(1, 256, 1), other}, open)
	early := api.Call{Client: 256, Seq: 1, From: 1, To: -1, Stamp: 6, Code: 8}
	isHistory(t, "at an event that is none", []api.Seen{asked(1, 256, 1), replied(-1, 256, 1, 6, 8), replied(5, 256, 1, 7, 9, 4), ran(0, 77, request(256, 1))}, early)
}

func TestP18_4Ran(t *testing.T) {
	call := func(stamp uint64) api.Call { return api.Call{Client: 256, Seq: 1, To: -1, Stamp: stamp} }
	a, mine, other := asked(0, 256, 1), request(256, 1), request(300, 3)
	stranger := func(stamp uint64) api.Call { return api.Call{Client: 300, Seq: 3, To: -1, Stamp: stamp} }
	isHistory(t, "not", []api.Seen{a, ran(0, 9)}, call(0))
	isHistory(t, "with another number", []api.Seen{a, ran(0, 9, request(256, 2))}, call(0), api.Call{Client: 256, Seq: 2, To: -1, Stamp: 9})
	isHistory(t, "in slot 0", []api.Seen{a, ran(0, 9, mine)}, call(9))
	isHistory(t, "ahead of being asked", []api.Seen{ran(0, 9, mine), a}, call(9))
	isHistory(t, "in two slots", []api.Seen{a, ran(4, 9, mine), ran(2, 5, mine), ran(3, 7, mine)}, call(5))
	isHistory(t, "behind a greater stamp", []api.Seen{a, ran(2, 5, mine), ran(1, 8)}, call(8))
	isHistory(t, "behind several", []api.Seen{a, ran(6, 7, mine), ran(5, 1), ran(0, 8), ran(1, 3)}, call(8))
	isHistory(t, "ahead of a greater stamp", []api.Seen{a, ran(2, 5, mine), ran(3, 8)}, call(5))
	isHistory(t, "twice in one slot: the first counts", []api.Seen{a, ran(2, 5, mine), ran(2, 8, mine)}, call(5))
	isHistory(t, "in one that is let go", []api.Seen{a, ran(2, 5), ran(2, 8, mine)}, call(0))
	isHistory(t, "in one that is let go, and later", []api.Seen{a, ran(2, 5), ran(2, 8, mine), ran(9, 6, mine)}, call(6))
	isHistory(t, "behind one that is let go", []api.Seen{a, ran(2, 5), ran(2, 8), ran(3, 4, mine)}, call(5))
	isHistory(t, "in the greatest slot", []api.Seen{a, ran(most, most, mine), ran(0, 0)}, call(most))
	isHistory(t, "with others", []api.Seen{a, ran(1, 5, other, mine, other)}, call(5), stranger(5))
	ended := api.Call{Client: 256, Seq: 1, To: 3, Stamp: 2, Code: 1}
	isHistory(t, "a call with an end has its reply's time", []api.Seen{a, ran(0, 9, mine), replied(3, 256, 1, 2, 1)}, ended)
	isHistory(t, "with an end, and ran later", []api.Seen{a, replied(3, 256, 1, 2, 1), ran(0, 9, mine)}, ended)
	isHistory(t, "other nodes", []api.Seen{a, {Kind: api.SRan, Node: 2, Slot: 1, Batch: api.Batch{Stamp: 4}}, {Kind: api.SRan, Node: 1, Slot: 1, Batch: api.Batch{Stamp: 9, Reqs: []api.Request{mine}}}}, call(0))
	isHistory(t, "what else was seen tells no time", []api.Seen{a, {Kind: api.SInstall, Slot: 0, Batch: api.Batch{Stamp: 99, Reqs: []api.Request{mine}}}, ran(0, 9, mine)}, call(9))
}

func TestP18_4Strangers(t *testing.T) {
	call := func(client, seq, stamp uint64, cmd ...byte) api.Call {
		return api.Call{Client: client, Seq: seq, Cmd: cmd, To: -1, Stamp: stamp}
	}
	isHistory(t, "alone", []api.Seen{ran(0, 4, request(300, 1, 9))}, call(300, 1, 4, 9))
	isHistory(t, "rising by slot, within one in its order", []api.Seen{
		ran(5, 4, request(302, 1), request(301, 1)), ran(1, 6, request(300, 2), request(300, 1, 3)), ran(3, 2, request(299, 9)),
	}, call(300, 2, 6), call(300, 1, 6, 3), call(299, 9, 6), call(302, 1, 6), call(301, 1, 6))
	isHistory(t, "behind all that were asked", []api.Seen{
		{Event: 7, Kind: api.SRan, Batch: api.Batch{Stamp: 4, Reqs: []api.Request{request(300, 1), request(256, 2)}}}, asked(8, 256, 2), asked(9, 256, 1),
	}, api.Call{Client: 256, Seq: 2, From: 8, To: -1, Stamp: 4}, api.Call{Client: 256, Seq: 1, From: 9, To: -1}, call(300, 1, 4))
	isHistory(t, "of several in one batch the first", []api.Seen{ran(0, 4, request(300, 1, 1), request(301, 1), request(300, 1, 2))}, call(300, 1, 4, 1), call(301, 1, 4))
	isHistory(t, "the command of the lowest slot", []api.Seen{ran(2, 4, request(300, 1, 2)), ran(1, 3, request(300, 1, 1)), ran(3, 9, request(300, 1, 3))}, call(300, 1, 3, 1))
	isHistory(t, "one that is let go", []api.Seen{ran(2, 4), ran(2, 5, request(300, 1))})
	isHistory(t, "a reply to it is nobody's", []api.Seen{ran(0, 4, request(300, 1)), replied(3, 300, 1, 7, 8, 9)}, call(300, 1, 4))
	isHistory(t, "another number of a client that asked", []api.Seen{asked(1, 256, 1), ran(0, 4, request(256, 2, 5))}, api.Call{Client: 256, Seq: 1, From: 1, To: -1}, call(256, 2, 4, 5))
	isHistory(t, "empty bytes", []api.Seen{ran(0, 4, api.Request{Client: 300, Seq: 1, Cmd: []byte{}})}, call(300, 1, 4))
}

// seen draws what was seen: few clients, numbers and slots, so that they meet.
func (d *dice) seen() []api.Seen {
	var list []api.Seen
	for range d.below(14) {
		client, seq := uint64(256+d.below(3)), uint64(1+d.below(2))
		switch d.below(7) {
		case 0, 1:
			list = append(list, asked(d.below(9), client, seq, d.bytes(2)...))
		case 2:
			list = append(list, replied(d.below(10)-1, client, seq, uint64(d.below(9)), api.Errno(d.below(3)), d.bytes(2)...))
		case 3:
			list = append(list, api.Seen{Event: d.below(9), Kind: api.SeenKind(d.below(9)), Client: client, Seq: seq, Slot: uint64(d.below(5))})
		default:
			var reqs []api.Request
			for range d.below(4) {
				reqs = append(reqs, request(uint64(256+d.below(4)), uint64(1+d.below(2)), d.bytes(2)...))
			}
			list = append(list, ran(uint64(d.below(5)), uint64(d.below(9)), reqs...))
		}
	}
	return list
}

// Whatever was seen, beside a second gathering; what is handed in stays as it was, and the answer is new memory.
func TestP18_4SecondGathering(t *testing.T) {
	d, twin := &dice{184}, &dice{184}
	ended, strangers, late := 0, 0, 0
	for range 30000 {
		seen, before := d.seen(), twin.seen()
		got, want := engine.History(seen), secondHistory(before)
		if !same(got, want) {
			t.Fatalf("%+v: %+v, want %+v", seen, got, want)
		}
		if !same(seen, before) {
			t.Fatalf("%+v was changed into %+v", before, seen)
		}
		for _, c := range got {
			spoil(c.Cmd[:cap(c.Cmd)])
			spoil(c.Data[:cap(c.Data)])
			if c.To >= 0 {
				ended++
			} else if c.Stamp > 0 {
				late++
			}
			if c.Client == 259 {
				strangers++
			}
		}
		if !same(seen, before) {
			t.Fatalf("the answer shares memory with %+v", before)
		}
	}
	if ended < 2000 || strangers < 2000 || late < 2000 {
		t.Errorf("%d ended, %d strangers, %d that ran without an end", ended, strangers, late)
	}
}

// No two lists of one answer share memory.
func TestP18_4Own(t *testing.T) {
	seen := []api.Seen{asked(1, 256, 1, 1, 2, 3), asked(1, 257, 1, 1, 2, 3), replied(2, 256, 1, 3, 4, 1, 2, 3), ran(0, 1, request(300, 1, 1, 2, 3), request(301, 1, 1, 2, 3))}
	calls := engine.History(seen)
	_ = append(calls[0].Cmd, 9)
	spoil(calls[0].Cmd[:cap(calls[0].Cmd)])
	want := engine.History(seen)
	if !same(calls[0].Data, want[0].Data) || !same(calls[1:], want[1:]) {
		t.Errorf("%+v, want %+v", calls, want)
	}
}

// Many are gathered in good time.
func TestP18_4Many(t *testing.T) {
	var seen []api.Seen
	const n = 100000
	for i := range uint64(n) {
		seen = append(seen, asked(int(i), 256+i%7, i), ran(n-i, i, request(256+i%7, i), request(300, i)))
	}
	if calls := engine.History(seen); len(calls) != 2*n {
		t.Errorf("%d calls", len(calls))
	}
}
