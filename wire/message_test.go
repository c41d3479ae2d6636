package wire_test

import (
	"bytes"
	"math"
	"reflect"
	"testing"

	"quorum/api"
	"quorum/wire"
)

// sample is a message and the body that it must have.
type sample struct {
	msg  api.Msg
	body []byte
}

func hash(first, last byte) api.Hash { return api.Hash{0: first, 31: last} }

func hashBytes(first, last byte) []byte { return join([]byte{first}, make([]byte, 30), []byte{last}) }

// samples has messages of every kind, laid down by hand.
func samples() []sample {
	bal := api.Ballot{Num: 300, Node: 6}
	laidBal := []byte{0xAC, 2, 6}
	batch := api.Batch{Stamp: 300, Reqs: []api.Request{{Client: 256, Seq: 1, Cmd: []byte{0xAA}}, {Client: math.MaxUint64, Seq: math.MaxUint64}}}
	great := []byte{255, 255, 255, 255, 255, 255, 255, 255, 255, 1}
	laidBatch := join([]byte{0xAC, 2, 2, 0x80, 2, 1, 1, 0xAA}, great, great, []byte{0})
	votes := []api.Vote{{Slot: 10, Bal: api.Ballot{Num: 1}, Batch: batch}, {Slot: 12, Batch: api.Batch{Stamp: 5}}}
	top := []byte{0x80, 0x80, 0x80, 0x80, 0x80, 0x20}
	return []sample{
		{api.Msg{Kind: api.KRequest, Seq: 4, Cmd: []byte{0xAA, 0xBB}}, []byte{4, 2, 0xAA, 0xBB}},
		{api.Msg{Kind: api.KRequest}, []byte{0, 0}},
		{api.Msg{Kind: api.KReply, Seq: 4, Stamp: 128, Code: 1023, Data: []byte{1, 2}}, []byte{4, 0x80, 1, 0xFF, 7, 2, 1, 2}},
		{api.Msg{Kind: api.KReply}, []byte{0, 0, 0, 0}},
		{api.Msg{Kind: api.KPrepare, Bal: bal}, laidBal},
		{api.Msg{Kind: api.KPrepare}, []byte{0, 0}},
		{api.Msg{Kind: api.KPrepare, Bal: api.Ballot{Num: 1 << 40, Node: 3}}, join(top, []byte{3})},
		{api.Msg{Kind: api.KPromise, Bal: bal, Low: 10, Votes: votes}, join(laidBal, []byte{10, 2, 10, 1, 0}, laidBatch, []byte{12, 0, 0, 5, 0})},
		{api.Msg{Kind: api.KPromise}, []byte{0, 0, 0, 0}},
		{api.Msg{Kind: api.KLead, Bal: bal, Low: 128}, join(laidBal, []byte{0x80, 1})},
		{api.Msg{Kind: api.KLead, Low: 1 << 40}, join([]byte{0, 0}, top)},
		{api.Msg{Kind: api.KPropose, Bal: bal, Slot: 7, Batch: batch}, join(laidBal, []byte{7}, laidBatch)},
		{api.Msg{Kind: api.KAccept, Bal: bal, Slot: 1 << 40, Batch: batch}, join(laidBal, top, laidBatch)},
		{api.Msg{Kind: api.KAccept, Batch: api.Batch{Stamp: 1 << 40}}, join([]byte{0, 0, 0}, top, []byte{0})},
		{api.Msg{Kind: api.KBeat, Bal: bal, Slot: 7, Suspect: true}, join(laidBal, []byte{7, 1})},
		{api.Msg{Kind: api.KBeat, Bal: bal, Slot: 7}, join(laidBal, []byte{7, 0})},
		{api.Msg{Kind: api.KWant, Slot: 7, Index: 39}, []byte{7, 39}},
		{api.Msg{Kind: api.KWant}, []byte{0, 0}},
		{api.Msg{Kind: api.KGive, Slot: 7, Index: 1, Count: 2, Root: hash(1, 2), Data: []byte{5}, Path: []api.Hash{hash(3, 4), hash(5, 6)}},
			join([]byte{7, 1, 2}, hashBytes(1, 2), []byte{1, 5, 2}, hashBytes(3, 4), hashBytes(5, 6))},
		{api.Msg{Kind: api.KGive, Count: 1, Data: []byte{0}}, join([]byte{0, 0, 1}, make([]byte, 32), []byte{1, 0, 0})},
		{api.Msg{Kind: api.KGive, Index: 39, Count: 40, Data: []byte{0}}, join([]byte{0, 39, 40}, make([]byte, 32), []byte{1, 0, 0})},
	}
}

func TestP1_6Bodies(t *testing.T) {
	for _, s := range samples() {
		b, err := wire.EncodeMsg(s.msg)
		refused(t, "EncodeMsg", err, api.OK, 0)
		same(t, "EncodeMsg", b, framed(t, uint8(s.msg.Kind), s.body...))
	}
}

// fill gives each field of a message, by its number, a value that is not zero.
func fill(m *api.Msg, field int) {
	switch field {
	case 1:
		m.Bal.Num = 1
	case 2:
		m.Slot = 1
	case 3:
		m.Low = 1
	case 4:
		m.Votes = make([]api.Vote, 1)
	case 5:
		m.Batch.Stamp = 1
	case 6:
		m.Seq = 1
	case 7:
		m.Stamp = 1
	case 8:
		m.Code = 1
	case 9:
		m.Cmd = []byte{0}
	case 10:
		m.Data = []byte{0}
	case 11:
		m.Suspect = true
	case 12:
		m.Index = 1
	case 13:
		m.Count = 2
	case 14:
		m.Root[31] = 1
	case 15:
		m.Path = make([]api.Hash, 1)
	}
}

// uses tells the numbers of the fields that a kind uses, by the table of P1.6.
func uses(kind api.Kind) []int {
	return [][]int{{}, {6, 9}, {6, 7, 8, 10}, {1}, {1, 3, 4}, {1, 3}, {1, 2, 5}, {1, 2, 5}, {1, 2, 11}, {2, 12}, {2, 10, 12, 13, 14, 15}}[kind]
}

// whole gives a message of a kind that is not refused, as plain as can be.
func whole(kind api.Kind) api.Msg {
	m := api.Msg{Kind: kind}
	if kind == api.KGive {
		m.Count, m.Data = 2, []byte{1}
	}
	return m
}

func TestP1_6UnusedFields(t *testing.T) {
	for kind := api.KRequest; kind <= api.KGive; kind++ {
		used := map[int]bool{}
		for _, field := range uses(kind) {
			used[field] = true
		}
		for field := 1; field <= 15; field++ {
			m := whole(kind)
			fill(&m, field)
			b, err := wire.EncodeMsg(m)
			if used[field] {
				refused(t, "a field that is used", err, api.OK, 0)
				continue
			}
			refused(t, "a field that is not used", err, api.ErrWireField, field)
			same(t, "a field that is not used", b, nil)
			// A later field that is not used, or a used one at fault, is not told ahead of it.
			for later := field + 1; later <= 15; later++ {
				fill(&m, later)
			}
			m.Path = make([]api.Hash, 99)
			_, err = wire.EncodeMsg(m)
			refused(t, "several fields", err, api.ErrWireField, field)
		}
	}
}

func TestP1_6UnusedParts(t *testing.T) {
	for _, c := range []struct {
		what string
		msg  api.Msg
		why  api.Errno
		at   int
	}{
		{"a ballot's Node", api.Msg{Kind: api.KRequest, Bal: api.Ballot{Node: 1}}, api.ErrWireField, 1},
		{"a ballot's Node below 0", api.Msg{Kind: api.KRequest, Bal: api.Ballot{Node: -1}}, api.ErrWireField, 1},
		{"a batch's requests", api.Msg{Kind: api.KRequest, Batch: api.Batch{Reqs: make([]api.Request, 1)}}, api.ErrWireField, 5},
		{"too many requests", api.Msg{Kind: api.KRequest, Batch: api.Batch{Reqs: make([]api.Request, 9)}}, api.ErrWireField, 5},
		{"too many votes", api.Msg{Kind: api.KLead, Votes: make([]api.Vote, 9)}, api.ErrWireField, 4},
		{"too long a command", api.Msg{Kind: api.KReply, Cmd: make([]byte, 701)}, api.ErrWireField, 9},
		{"a code below 0", api.Msg{Kind: api.KRequest, Code: -1}, api.ErrWireField, 8},
		{"lists that are empty", api.Msg{Kind: api.KPrepare, Votes: []api.Vote{}, Batch: api.Batch{Reqs: []api.Request{}}, Cmd: []byte{}, Data: []byte{}, Path: []api.Hash{}}, api.OK, 0},
	} {
		_, err := wire.EncodeMsg(c.msg)
		refused(t, c.what, err, c.why, c.at)
	}
}

func TestP1_6Kinds(t *testing.T) {
	for _, kind := range []api.Kind{0, -1, 11, 12, 255, 256, 257, 266, math.MaxInt, math.MinInt} {
		m := whole(1)
		m.Kind, m.Slot = kind, 1
		b, err := wire.EncodeMsg(m)
		refused(t, "no kind", err, api.ErrWireKind, 0)
		same(t, "no kind", b, nil)
	}
}

// badBatches has batches with one fault or several, and the number that is told.
func badBatches() map[string]struct {
	batch api.Batch
	why   api.Errno
} {
	type bad = struct {
		batch api.Batch
		why   api.Errno
	}
	long := make([]byte, api.MaxCmd+1)
	return map[string]bad{
		"a stamp above":                {api.Batch{Stamp: 1<<40 + 1}, api.ErrWireField},
		"a stamp above, too many":      {api.Batch{Stamp: 1<<40 + 1, Reqs: make([]api.Request, 9)}, api.ErrWireField},
		"nine requests of nobody":      {api.Batch{Reqs: make([]api.Request, 9)}, api.ErrWireLong},
		"a request of nobody":          {api.Batch{Reqs: []api.Request{{Client: 255}}}, api.ErrWireField},
		"a command too long":           {api.Batch{Reqs: []api.Request{{Client: 256, Cmd: long}}}, api.ErrWireLong},
		"of nobody, and too long":      {api.Batch{Reqs: []api.Request{{Client: 255, Cmd: long}}}, api.ErrWireField},
		"too long, then one of nobody": {api.Batch{Reqs: []api.Request{{Client: 256, Cmd: long}, {Client: 255}}}, api.ErrWireLong},
		"of nobody, then too long":     {api.Batch{Reqs: []api.Request{{Client: 255}, {Client: 256, Cmd: long}}}, api.ErrWireField},
	}
}

func TestP1_6Batches(t *testing.T) {
	for what, c := range badBatches() {
		for _, kind := range []api.Kind{api.KPropose, api.KAccept} {
			_, err := wire.EncodeMsg(api.Msg{Kind: kind, Batch: c.batch})
			refused(t, what, err, c.why, 5)
			_, err = wire.EncodeMsg(api.Msg{Kind: kind, Slot: 1<<40 + 1, Batch: c.batch})
			refused(t, what+", and the slot", err, api.ErrWireField, 2)
		}
		_, err := wire.EncodeMsg(api.Msg{Kind: api.KPromise, Votes: []api.Vote{{Batch: c.batch}}})
		refused(t, what+", in a vote", err, c.why, 4)
		_, err = wire.EncodeMsg(api.Msg{Kind: api.KPromise, Votes: []api.Vote{{}, {Slot: 1, Batch: c.batch}, {}}})
		refused(t, what+", in a vote ahead of one that does not rise", err, c.why, 4)
		_, err = wire.EncodeMsg(api.Msg{Kind: api.KPromise, Votes: []api.Vote{{Bal: api.Ballot{Node: 7}, Batch: c.batch}}})
		refused(t, what+", behind a vote's ballot", err, api.ErrWireField, 4)
		_, err = wire.EncodeMsg(api.Msg{Kind: api.KPromise, Low: 1, Votes: []api.Vote{{Batch: c.batch}}})
		refused(t, what+", behind a vote that does not rise", err, api.ErrWireOrder, 4)
	}
}

func TestP1_6Values(t *testing.T) {
	over := uint64(1<<40 + 1)
	vote := func(slots ...uint64) (votes []api.Vote) {
		for _, s := range slots {
			votes = append(votes, api.Vote{Slot: s})
		}
		return votes
	}
	give := func(change func(m *api.Msg)) api.Msg {
		m := whole(api.KGive)
		change(&m)
		return m
	}
	for _, c := range []struct {
		what string
		msg  api.Msg
		why  api.Errno
		at   int
	}{
		{"a ballot's Num above", api.Msg{Kind: api.KPrepare, Bal: api.Ballot{Num: over}}, api.ErrWireField, 1},
		{"Node 7", api.Msg{Kind: api.KPrepare, Bal: api.Ballot{Num: 1, Node: 7}}, api.ErrWireField, 1},
		{"Node -1", api.Msg{Kind: api.KPrepare, Bal: api.Ballot{Node: -1}}, api.ErrWireField, 1},
		{"Node 256", api.Msg{Kind: api.KPrepare, Bal: api.Ballot{Node: 256}}, api.ErrWireField, 1},
		{"Node 6", api.Msg{Kind: api.KPrepare, Bal: api.Ballot{Node: 6}}, api.OK, 0},
		{"Slot above", api.Msg{Kind: api.KBeat, Slot: over}, api.ErrWireField, 2},
		{"Slot far above", api.Msg{Kind: api.KWant, Slot: math.MaxUint64}, api.ErrWireField, 2},
		{"Low above", api.Msg{Kind: api.KLead, Low: over}, api.ErrWireField, 3},
		{"Low above, and votes that don't rise", api.Msg{Kind: api.KPromise, Low: over, Votes: vote(0, 0)}, api.ErrWireField, 3},
		{"Low far above, and votes", api.Msg{Kind: api.KPromise, Low: math.MaxUint64, Votes: vote(0, 0)}, api.ErrWireField, 3},
		{"eight votes", api.Msg{Kind: api.KPromise, Votes: vote(0, 1, 2, 3, 4, 5, 6, 7)}, api.OK, 0},
		{"nine votes", api.Msg{Kind: api.KPromise, Votes: vote(0, 1, 2, 3, 4, 5, 6, 7, 8)}, api.ErrWireLong, 4},
		{"nine votes that don't rise", api.Msg{Kind: api.KPromise, Votes: make([]api.Vote, 9)}, api.ErrWireLong, 4},
		{"a vote at Low", api.Msg{Kind: api.KPromise, Low: 5, Votes: vote(5)}, api.OK, 0},
		{"a vote below Low", api.Msg{Kind: api.KPromise, Low: 5, Votes: vote(4)}, api.ErrWireOrder, 4},
		{"two votes of one slot", api.Msg{Kind: api.KPromise, Votes: vote(3, 3)}, api.ErrWireOrder, 4},
		{"votes that fall", api.Msg{Kind: api.KPromise, Votes: vote(3, 4, 2)}, api.ErrWireOrder, 4},
		{"votes with gaps", api.Msg{Kind: api.KPromise, Votes: vote(3, 40, 1<<40)}, api.OK, 0},
		{"a vote's slot above", api.Msg{Kind: api.KPromise, Votes: vote(over)}, api.ErrWireField, 4},
		{"a vote's slot far above", api.Msg{Kind: api.KPromise, Votes: vote(math.MaxUint64, 0)}, api.ErrWireField, 4},
		{"order, then a slot above", api.Msg{Kind: api.KPromise, Votes: vote(3, 3, over)}, api.ErrWireOrder, 4},
		{"a slot above, then order", api.Msg{Kind: api.KPromise, Votes: vote(over, 3, 3)}, api.ErrWireField, 4},
		{"a vote's Node 7", api.Msg{Kind: api.KPromise, Votes: []api.Vote{{Bal: api.Ballot{Node: 7}}, {}}}, api.ErrWireField, 4},
		{"a vote's ballot above", api.Msg{Kind: api.KPromise, Votes: []api.Vote{{Bal: api.Ballot{Num: over}}}}, api.ErrWireField, 4},
		{"Seq of any number", api.Msg{Kind: api.KRequest, Seq: math.MaxUint64}, api.OK, 0},
		{"Stamp above", api.Msg{Kind: api.KReply, Stamp: over}, api.ErrWireField, 7},
		{"Code 1024", api.Msg{Kind: api.KReply, Code: 1024}, api.ErrWireField, 8},
		{"Code -1", api.Msg{Kind: api.KReply, Code: -1}, api.ErrWireField, 8},
		{"the lowest Code", api.Msg{Kind: api.KReply, Code: math.MinInt}, api.ErrWireField, 8},
		{"700 bytes of Cmd", api.Msg{Kind: api.KRequest, Cmd: make([]byte, 700)}, api.OK, 0},
		{"701 bytes of Cmd", api.Msg{Kind: api.KRequest, Cmd: make([]byte, 701)}, api.ErrWireLong, 9},
		{"256 bytes of Data", api.Msg{Kind: api.KReply, Data: make([]byte, 256)}, api.OK, 0},
		{"257 bytes of Data", api.Msg{Kind: api.KReply, Data: make([]byte, 257)}, api.ErrWireLong, 10},
		{"Index 40 of a want", api.Msg{Kind: api.KWant, Index: 40}, api.ErrWireField, 12},
		{"Index 39 of a want", api.Msg{Kind: api.KWant, Index: 39}, api.OK, 0},
		{"a chunk of 1024 bytes", give(func(m *api.Msg) { m.Data = make([]byte, 1024) }), api.OK, 0},
		{"a chunk of 1025 bytes", give(func(m *api.Msg) { m.Data = make([]byte, 1025) }), api.ErrWireLong, 10},
		{"a chunk of none", give(func(m *api.Msg) { m.Data = nil }), api.ErrWireField, 10},
		{"a chunk of none, not nil", give(func(m *api.Msg) { m.Data = []byte{} }), api.ErrWireField, 10},
		{"Index 40 of 40", give(func(m *api.Msg) { m.Index, m.Count = 40, 40 }), api.ErrWireField, 12},
		{"Index 40 of none", give(func(m *api.Msg) { m.Index, m.Count = 40, 0 }), api.ErrWireField, 12},
		{"the greatest Index", give(func(m *api.Msg) { m.Index, m.Count = math.MaxUint64, 1 }), api.ErrWireField, 12},
		{"Index 39 of 40", give(func(m *api.Msg) { m.Index, m.Count = 39, 40 }), api.OK, 0},
		{"Index 2 of 2", give(func(m *api.Msg) { m.Index, m.Count = 2, 2 }), api.ErrWireField, 13},
		{"Index 3 of 2", give(func(m *api.Msg) { m.Index, m.Count = 3, 2 }), api.ErrWireField, 13},
		{"Count 0", give(func(m *api.Msg) { m.Count = 0 }), api.ErrWireField, 13},
		{"Count 41", give(func(m *api.Msg) { m.Count = 41 }), api.ErrWireField, 13},
		{"the greatest Count", give(func(m *api.Msg) { m.Count = math.MaxUint64 }), api.ErrWireField, 13},
		{"six hashes", give(func(m *api.Msg) { m.Path = make([]api.Hash, 6) }), api.OK, 0},
		{"seven hashes", give(func(m *api.Msg) { m.Path = make([]api.Hash, 7) }), api.ErrWireLong, 15},
		{"all at once", give(func(m *api.Msg) { m.Slot, m.Data, m.Index, m.Count, m.Path = over, nil, 40, 0, make([]api.Hash, 7) }), api.ErrWireField, 2},
	} {
		b, err := wire.EncodeMsg(c.msg)
		refused(t, c.what, err, c.why, c.at)
		if err != nil {
			same(t, c.what, b, nil)
			continue
		}
		m, err := wire.DecodeMsg(b)
		refused(t, c.what+", read", err, api.OK, 0)
		if !alike(m, c.msg) {
			t.Errorf("%s: read back as %v", c.what, m)
		}
	}
}

// alike tells whether two messages are the same, with empty lists taken for nil.
func alike(a, b api.Msg) bool { return reflect.DeepEqual(plain(a), plain(b)) }

// plain gives the message with nil for its empty lists.
func plain(m api.Msg) api.Msg {
	m.Votes = append([]api.Vote(nil), m.Votes...)
	for i := range m.Votes {
		m.Votes[i].Batch = plainBatch(m.Votes[i].Batch)
	}
	m.Batch = plainBatch(m.Batch)
	m.Cmd, m.Data = append([]byte(nil), m.Cmd...), append([]byte(nil), m.Data...)
	m.Path = append([]api.Hash(nil), m.Path...)
	return m
}

func plainBatch(b api.Batch) api.Batch {
	b.Reqs = append([]api.Request(nil), b.Reqs...)
	for i := range b.Reqs {
		b.Reqs[i].Cmd = append([]byte(nil), b.Reqs[i].Cmd...)
	}
	return b
}

// fullBatch gives a batch that needs as many bytes as any.
func fullBatch() api.Batch {
	b := api.Batch{Stamp: 1 << 40}
	for range api.MaxReqs {
		b.Reqs = append(b.Reqs, api.Request{Client: math.MaxUint64, Seq: math.MaxUint64, Cmd: bytes.Repeat([]byte{0xEE}, api.MaxCmd)})
	}
	return b
}

func TestP1_6TheLongest(t *testing.T) {
	m := api.Msg{Kind: api.KPromise, Bal: api.Ballot{Num: 1 << 40, Node: 6}, Low: 1<<40 - 7}
	for i := range uint64(api.MaxWindow) {
		m.Votes = append(m.Votes, api.Vote{Slot: 1<<40 - 7 + i, Bal: m.Bal, Batch: fullBatch()})
	}
	b, err := wire.EncodeMsg(m)
	refused(t, "the longest message", err, api.OK, 0)
	got, err := wire.DecodeMsg(b)
	refused(t, "the longest message, read", err, api.OK, 0)
	if !alike(got, m) {
		t.Error("the longest message is read back otherwise")
	}
}

func TestP1_7Samples(t *testing.T) {
	for _, s := range samples() {
		m, err := wire.DecodeMsg(framed(t, uint8(s.msg.Kind), s.body...))
		refused(t, "DecodeMsg", err, api.OK, 0)
		if !reflect.DeepEqual(m, s.msg) {
			t.Errorf("DecodeMsg: %v, want %v", m, s.msg)
		}
	}
}

func TestP1_7CutsAndTails(t *testing.T) {
	for _, s := range samples() {
		kind := uint8(s.msg.Kind)
		for n := range s.body {
			m, err := wire.DecodeMsg(framed(t, kind, s.body[:n]...))
			f, ok := err.(*api.Fault)
			if !ok || f.Err != error(api.ErrWireShort) || f.At < api.WireHead || f.At > api.WireHead+n {
				t.Errorf("kind %d, %d bytes of its body: %v", kind, n, err)
			}
			if !reflect.DeepEqual(m, api.Msg{}) {
				t.Errorf("kind %d: a refusal with %v", kind, m)
			}
		}
		for _, tail := range [][]byte{{0}, {255, 255}} {
			_, err := wire.DecodeMsg(framed(t, kind, join(s.body, tail)...))
			refused(t, "a tail", err, api.ErrWireTail, api.WireHead+len(s.body))
		}
	}
}

func TestP1_7Refusals(t *testing.T) {
	over := []byte{0x81, 0x80, 0x80, 0x80, 0x80, 0x20}
	give := func(rest ...byte) []byte { return framed(t, 10, join([]byte{1, 0, 1}, make([]byte, 32), rest)...) }
	request := func(rest ...byte) []byte { return framed(t, 6, join([]byte{5, 2, 10, 0, 1}, rest)...) }
	with := func(kind uint8, parts ...[]byte) []byte { return framed(t, kind, join(parts...)...) }
	for _, c := range []struct {
		what string
		b    []byte
		why  api.Errno
		at   int
	}{
		{"no datagram", []byte("xxxxxxxxxxxx"), api.ErrWireMagic, 0},
		{"nothing", nil, api.ErrWireShort, 0},
		{"a cut datagram", framed(t, 3, 3, 1)[:13], api.ErrWireShort, 13},
		{"kind 0", framed(t, 0, 3, 1), api.ErrWireKind, 3},
		{"kind 11", framed(t, 11), api.ErrWireKind, 3},
		{"kind 255", framed(t, 255), api.ErrWireKind, 3},
		{"no ballot", framed(t, 3), api.ErrWireShort, 8},
		{"no Node", framed(t, 3, 3), api.ErrWireShort, 9},
		{"a Num in a wrong form", framed(t, 3, 0x83, 0, 1), api.ErrWireForm, 8},
		{"a ballot's Num above", with(3, over, []byte{1}), api.ErrWireField, 8},
		{"a ballot's Num above, and no Node", with(3, over), api.ErrWireField, 8},
		{"Node 7", framed(t, 3, 3, 7), api.ErrWireField, 9},
		{"Node 7, and a tail", framed(t, 3, 3, 7, 0), api.ErrWireField, 9},
		{"Node 255", framed(t, 3, 3, 255), api.ErrWireField, 9},
		{"Seq in a wrong form", framed(t, 1, 0x80, 0, 0), api.ErrWireForm, 8},
		{"a command above", framed(t, 1, 4, 0xBD, 5), api.ErrWireLong, 9},
		{"a command cut", framed(t, 1, 4, 2, 1), api.ErrWireShort, 9},
		{"a reply's Stamp above", with(2, []byte{4}, over, []byte{0, 0}), api.ErrWireField, 9},
		{"Code 1024", framed(t, 2, 1, 0, 0x80, 8, 0), api.ErrWireField, 10},
		{"a Code of 2^64-1", with(2, []byte{1, 0}, num(math.MaxUint64), []byte{0}), api.ErrWireField, 10},
		{"a reply's Data above", framed(t, 2, 1, 0, 0, 0x81, 2), api.ErrWireLong, 11},
		{"Low above", with(5, []byte{5, 2}, over), api.ErrWireField, 10},
		{"a promise's Low above", with(4, []byte{5, 2}, over, []byte{0}), api.ErrWireField, 10},
		{"nine votes", framed(t, 4, 5, 2, 10, 9), api.ErrWireLong, 11},
		{"a vote below Low", framed(t, 4, 5, 2, 10, 1, 9, 1, 0, 0, 0), api.ErrWireOrder, 12},
		{"a vote below Low, and nothing behind", framed(t, 4, 5, 2, 10, 1, 9), api.ErrWireOrder, 12},
		{"two votes of one slot", framed(t, 4, 5, 2, 10, 2, 11, 1, 0, 0, 0, 11, 1, 0, 0, 0), api.ErrWireOrder, 17},
		{"votes that fall", framed(t, 4, 5, 2, 10, 2, 11, 1, 0, 0, 0, 10, 1, 0, 0, 0), api.ErrWireOrder, 17},
		{"a vote's slot above", with(4, []byte{5, 2, 10, 1}, over, []byte{1, 0, 0, 0}), api.ErrWireField, 12},
		{"no vote", framed(t, 4, 5, 2, 10, 1), api.ErrWireShort, 12},
		{"a vote's Num above", with(4, []byte{5, 2, 10, 1, 10}, over, []byte{0, 0, 0}), api.ErrWireField, 13},
		{"a vote's Node 7", framed(t, 4, 5, 2, 10, 1, 10, 1, 7, 0, 0), api.ErrWireField, 14},
		{"a vote's Stamp above", with(4, []byte{5, 2, 10, 1, 10, 1, 0}, over, []byte{0}), api.ErrWireField, 15},
		{"a vote's nine requests", framed(t, 4, 5, 2, 10, 1, 10, 1, 0, 0, 9), api.ErrWireLong, 16},
		{"Slot above", with(6, []byte{5, 2}, over, []byte{0, 0}), api.ErrWireField, 10},
		{"a batch's Stamp above", with(7, []byte{5, 2, 10}, over, []byte{0}), api.ErrWireField, 11},
		{"nine requests", framed(t, 6, 5, 2, 10, 0, 9), api.ErrWireLong, 12},
		{"a client of 255", request(0xFF, 1, 1, 0), api.ErrWireField, 13},
		{"a client of 0", request(0, 1, 0), api.ErrWireField, 13},
		{"a client cut", request(0x80), api.ErrWireShort, 13},
		{"a client of 256 and no Seq", request(0x80, 2), api.ErrWireShort, 15},
		{"a request's Seq in a wrong form", request(0x80, 2, 0x81, 0, 0), api.ErrWireForm, 15},
		{"a request's command above", request(0x80, 2, 1, 0xBD, 5), api.ErrWireLong, 16},
		{"a request's command cut", request(0x80, 2, 1, 3, 0, 0), api.ErrWireShort, 16},
		{"a flag of 2", framed(t, 8, 5, 2, 10, 2), api.ErrWireForm, 11},
		{"a beat's Slot above", with(8, []byte{5, 2}, over, []byte{0}), api.ErrWireField, 10},
		{"a want of chunk 40", framed(t, 9, 1, 40), api.ErrWireField, 9},
		{"a want's Slot above", with(9, over, []byte{0}), api.ErrWireField, 8},
		{"a give's Slot above", with(10, over, []byte{0}), api.ErrWireField, 8},
		{"a give of chunk 40", framed(t, 10, 1, 40, 41), api.ErrWireField, 9},
		{"a give of the greatest chunk", with(10, []byte{1}, num(math.MaxUint64), []byte{1}), api.ErrWireField, 9},
		{"Index 2 of 2", framed(t, 10, 1, 2, 2), api.ErrWireField, 10},
		{"Count 0", framed(t, 10, 1, 0, 0), api.ErrWireField, 10},
		{"Count 41", framed(t, 10, 1, 0, 41), api.ErrWireField, 10},
		{"no root", framed(t, 10, 1, 0, 1), api.ErrWireShort, 11},
		{"a root of 31 bytes", with(10, []byte{1, 0, 1}, make([]byte, 31)), api.ErrWireShort, 11},
		{"a chunk of none", give(0, 0), api.ErrWireField, 43},
		{"a chunk above", give(0x81, 8), api.ErrWireLong, 43},
		{"a chunk cut", give(2, 1), api.ErrWireShort, 43},
		{"seven hashes", give(1, 5, 7), api.ErrWireLong, 45},
		{"a hash cut", give(join([]byte{1, 5, 2}, make([]byte, 63))...), api.ErrWireShort, 78},
		{"a hash too many", give(join([]byte{1, 5, 1}, make([]byte, 64))...), api.ErrWireTail, 78},
	} {
		kept := bytes.Clone(c.b)
		m, err := wire.DecodeMsg(c.b)
		refused(t, c.what, err, c.why, c.at)
		if !reflect.DeepEqual(m, api.Msg{}) {
			t.Errorf("%s: a refusal with %v", c.what, m)
		}
		if !bytes.Equal(c.b, kept) {
			t.Errorf("%s: the bytes were changed", c.what)
		}
	}
}

// anyBatch throws a batch that may be.
func anyBatch(d *dice) api.Batch {
	b := api.Batch{Stamp: d.number(api.MaxTick)}
	for range d.below(api.MaxReqs + 1) {
		client := 256 + d.number(math.MaxUint64-256)
		b.Reqs = append(b.Reqs, api.Request{Client: client, Seq: d.number(math.MaxUint64), Cmd: d.bytes(int(d.number(20)))})
	}
	return b
}

func anyBallot(d *dice) api.Ballot {
	return api.Ballot{Num: d.number(api.MaxBallots), Node: d.below(7)}
}

// anyMsg throws a message that may be.
func anyMsg(d *dice) api.Msg {
	bal, slot, seq := anyBallot(d), d.number(api.MaxSlots), d.number(math.MaxUint64)
	switch kind := api.Kind(1 + d.below(10)); kind {
	case api.KRequest:
		return api.Msg{Kind: kind, Seq: seq, Cmd: d.bytes(int(d.number(api.MaxCmd)))}
	case api.KReply:
		return api.Msg{Kind: kind, Seq: seq, Stamp: d.number(api.MaxTick), Code: api.Errno(d.number(api.MaxCode)), Data: d.bytes(int(d.number(api.MaxData)))}
	case api.KPrepare:
		return api.Msg{Kind: kind, Bal: bal}
	case api.KPromise:
		m := api.Msg{Kind: kind, Bal: bal, Low: d.number(api.MaxSlots - 1000)}
		at := m.Low
		for range d.below(api.MaxWindow + 1) {
			at += uint64(d.below(3))
			m.Votes = append(m.Votes, api.Vote{Slot: at, Bal: anyBallot(d), Batch: anyBatch(d)})
			at++
		}
		return m
	case api.KLead:
		return api.Msg{Kind: kind, Bal: bal, Low: slot}
	case api.KPropose, api.KAccept:
		return api.Msg{Kind: kind, Bal: bal, Slot: slot, Batch: anyBatch(d)}
	case api.KBeat:
		return api.Msg{Kind: kind, Bal: bal, Slot: slot, Suspect: d.below(2) == 1}
	case api.KWant:
		return api.Msg{Kind: kind, Slot: slot, Index: d.number(api.MaxChunks - 1)}
	default:
		m := api.Msg{Kind: kind, Slot: slot, Index: d.number(api.MaxChunks - 1), Data: d.bytes(1 + int(d.number(api.ChunkSize-1)))}
		m.Count = m.Index + 1 + d.number(api.MaxChunks-1-m.Index)
		copy(m.Root[:], d.bytes(32))
		for range d.below(api.MaxPath + 1) {
			m.Path = append(m.Path, api.Hash(d.bytes(32)))
		}
		return m
	}
}

func TestP1_7ThereAndBack(t *testing.T) {
	d := &dice{6}
	for range 2000 {
		m := anyMsg(d)
		b, err := wire.EncodeMsg(m)
		if err != nil {
			t.Fatalf("%v is refused: %v", m, err)
		}
		got, err := wire.DecodeMsg(b)
		if err != nil || !reflect.DeepEqual(got, m) {
			t.Fatalf("%v is read back as %v, %v", m, got, err)
		}
	}
}

// TestP1_7OneForm changes bodies anyhow: what is read all the same must be written back as it was.
func TestP1_7OneForm(t *testing.T) {
	d, taken := &dice{7}, 0
	for range 20000 {
		m := anyMsg(d)
		b, err := wire.EncodeMsg(m)
		if err != nil {
			t.Fatal(err)
		}
		kind, body, _ := wire.Unframe(b)
		for range 1 + d.below(3) {
			body[d.below(min(len(body), 12))] = byte(d.next() >> 9 & 0x83)
		}
		if d.below(8) == 0 {
			kind = uint8(1 + d.below(10))
		}
		turned := framed(t, kind, body...)
		got, err := wire.DecodeMsg(turned)
		if err != nil {
			continue
		}
		taken++
		back, err := wire.EncodeMsg(got)
		if err != nil || !bytes.Equal(back, turned) {
			t.Fatalf("% x is read as %v, which is written as % x, %v", turned, got, back, err)
		}
	}
	if taken < 1000 {
		t.Errorf("only %d changed bodies were read at all", taken)
	}
}

func TestP1_7Own(t *testing.T) {
	for i := range samples() {
		s := samples()[i] // anew: the samples share their parts, and this one is written over
		kept := plain(s.msg)
		b, _ := wire.EncodeMsg(s.msg)
		laid := bytes.Clone(b)
		m, _ := wire.DecodeMsg(b)
		clear(b)
		if !alike(m, kept) {
			t.Errorf("kind %d: the message turns with its datagram", kept.Kind)
		}
		spoil(m)
		if !alike(s.msg, kept) {
			t.Errorf("kind %d: what was told shares memory with what was written", kept.Kind)
		}
		b, _ = wire.EncodeMsg(s.msg)
		spoil(s.msg)
		same(t, "a datagram whose message was written over", b, laid)
	}
}

// spoil writes over every list of a message, up to the end of its room.
func spoil(m api.Msg) {
	clear(m.Cmd[:cap(m.Cmd)])
	clear(m.Data[:cap(m.Data)])
	clear(m.Path[:cap(m.Path)])
	spoilBatch(m.Batch)
	for _, v := range m.Votes {
		spoilBatch(v.Batch)
	}
	clear(m.Votes[:cap(m.Votes)])
}

func spoilBatch(b api.Batch) {
	for _, r := range b.Reqs {
		clear(r.Cmd[:cap(r.Cmd)])
	}
	clear(b.Reqs[:cap(b.Reqs)])
}

// TestP1_7NoTwoListsShare writes behind the end of each list: no other may turn.
func TestP1_7NoTwoListsShare(t *testing.T) {
	batch := api.Batch{Reqs: []api.Request{{Client: 256, Cmd: []byte{1, 2}}, {Client: 257, Cmd: []byte{3}}, {Client: 258, Cmd: []byte{4}}}}
	want := api.Msg{Kind: api.KPromise, Votes: []api.Vote{{Slot: 1, Batch: batch}, {Slot: 2, Batch: batch}, {Slot: 3, Batch: batch}}}
	b, _ := wire.EncodeMsg(want)
	m, _ := wire.DecodeMsg(b)
	for _, v := range m.Votes {
		_ = append(v.Batch.Reqs, api.Request{Client: 999, Seq: 9})
		for _, r := range v.Batch.Reqs {
			_ = append(r.Cmd, 9, 9, 9, 9, 9, 9)
		}
	}
	if !alike(m, want) {
		t.Errorf("lists share their room: %v", m)
	}
	m.Votes[0].Batch.Reqs[0].Cmd[0] = 77
	m.Votes[0].Batch.Reqs[1].Client = 300
	m.Votes[0] = want.Votes[0]
	if !alike(m, want) {
		t.Errorf("lists share their elements: %v", m)
	}
}
