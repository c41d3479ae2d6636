package wire_test

import (
	"bytes"
	"math"
	"reflect"
	"testing"

	"quorum/api"
	"quorum/wire"
)

func TestP1_8Bytes(t *testing.T) {
	for _, c := range []struct {
		batch api.Batch
		want  []byte
	}{
		{api.Batch{}, []byte{0, 0}},
		{api.Batch{Stamp: 300, Reqs: []api.Request{{Client: 256, Seq: 1, Cmd: []byte{0xAA}}}}, []byte{0xAC, 2, 1, 0x80, 2, 1, 1, 0xAA}},
		{api.Batch{Stamp: 1 << 40, Reqs: []api.Request{{Client: 257}, {Client: 256, Seq: 300}}}, []byte{0x80, 0x80, 0x80, 0x80, 0x80, 0x20, 2, 0x81, 2, 0, 0, 0x80, 2, 0xAC, 2, 0}},
	} {
		b, err := wire.EncodeBatch(c.batch)
		refused(t, "EncodeBatch", err, api.OK, 0)
		same(t, "EncodeBatch", b, c.want)
		got, err := wire.DecodeBatch(c.want)
		refused(t, "DecodeBatch", err, api.OK, 0)
		if !reflect.DeepEqual(got, c.batch) {
			t.Errorf("DecodeBatch: %v, want %v", got, c.batch)
		}
		for n := range c.want {
			if _, err := wire.DecodeBatch(c.want[:n]); err == nil {
				t.Errorf("%d bytes of % x are a batch", n, c.want)
			}
		}
	}
	b, err := wire.EncodeBatch(api.Batch{Reqs: []api.Request{}})
	refused(t, "an empty list of requests", err, api.OK, 0)
	same(t, "an empty list of requests", b, []byte{0, 0})
}

func TestP1_8EncodeRefusals(t *testing.T) {
	long := make([]byte, 701)
	good := api.Request{Client: 256, Cmd: long[:700]}
	for _, c := range []struct {
		what  string
		batch api.Batch
		why   api.Errno
		at    int
	}{
		{"Stamp above", api.Batch{Stamp: 1<<40 + 1}, api.ErrWireField, 0},
		{"Stamp above, and nine requests", api.Batch{Stamp: 1<<40 + 1, Reqs: make([]api.Request, 9)}, api.ErrWireField, 0},
		{"nine requests of nobody", api.Batch{Reqs: make([]api.Request, 9)}, api.ErrWireLong, 1},
		{"the first of nobody", api.Batch{Reqs: []api.Request{{Client: 255}}}, api.ErrWireField, 2},
		{"the second of nobody", api.Batch{Reqs: []api.Request{good, {}}}, api.ErrWireField, 3},
		{"the eighth of nobody", api.Batch{Reqs: []api.Request{good, good, good, good, good, good, good, {Client: 255}}}, api.ErrWireField, 9},
		{"the first too long", api.Batch{Reqs: []api.Request{{Client: 256, Cmd: long}, {}}}, api.ErrWireLong, 2},
		{"the third too long", api.Batch{Reqs: []api.Request{good, good, {Client: 256, Cmd: long}}}, api.ErrWireLong, 4},
		{"one of nobody and too long", api.Batch{Reqs: []api.Request{good, {Cmd: long}}}, api.ErrWireField, 3},
		{"eight that are good", api.Batch{Stamp: 1 << 40, Reqs: []api.Request{good, good, good, good, good, good, good, good}}, api.OK, 0},
		{"the longest", fullBatch(), api.OK, 0},
	} {
		b, err := wire.EncodeBatch(c.batch)
		refused(t, c.what, err, c.why, c.at)
		if err != nil {
			same(t, c.what, b, nil)
		}
	}
}

func TestP1_8DecodeRefusals(t *testing.T) {
	for _, c := range []struct {
		what string
		b    []byte
		why  api.Errno
		at   int
	}{
		{"nothing", nil, api.ErrWireShort, 0},
		{"no count", []byte{0}, api.ErrWireShort, 1},
		{"Stamp above", []byte{0x81, 0x80, 0x80, 0x80, 0x80, 0x20, 0}, api.ErrWireField, 0},
		{"Stamp in a wrong form", []byte{0x80, 0, 0}, api.ErrWireForm, 0},
		{"nine requests", []byte{0, 9}, api.ErrWireLong, 1},
		{"a client of 255", []byte{0, 1, 0xFF, 1, 0, 0}, api.ErrWireField, 2},
		{"no Seq", []byte{0, 1, 0x80, 2}, api.ErrWireShort, 4},
		{"a command above", []byte{0, 1, 0x80, 2, 0, 0xBD, 5}, api.ErrWireLong, 5},
		{"the second client", []byte{0, 2, 0x80, 2, 0, 0, 5}, api.ErrWireField, 6},
		{"a byte more", []byte{0, 0, 0}, api.ErrWireTail, 2},
		{"very much more", make([]byte, 1<<20), api.ErrWireTail, 2},
	} {
		kept := bytes.Clone(c.b)
		batch, err := wire.DecodeBatch(c.b)
		refused(t, c.what, err, c.why, c.at)
		if !reflect.DeepEqual(batch, api.Batch{}) {
			t.Errorf("%s: a refusal with %v", c.what, batch)
		}
		if !bytes.Equal(c.b, kept) {
			t.Errorf("%s: the bytes were changed", c.what)
		}
	}
}

func TestP1_8ThereAndBack(t *testing.T) {
	d, taken := &dice{8}, 0
	for range 5000 {
		batch := anyBatch(d)
		b, err := wire.EncodeBatch(batch)
		refused(t, "a batch", err, api.OK, 0)
		got, err := wire.DecodeBatch(b)
		refused(t, "a batch, read", err, api.OK, 0)
		if !reflect.DeepEqual(got, batch) {
			t.Fatalf("%v is read back as %v", batch, got)
		}
		b[d.below(len(b))] = byte(d.next() >> 9 & 0x83)
		got, err = wire.DecodeBatch(b)
		if err != nil {
			continue
		}
		taken++
		back, err := wire.EncodeBatch(got)
		refused(t, "a changed batch, written", err, api.OK, 0)
		same(t, "a changed batch, written", back, b)
	}
	if taken == 0 {
		t.Error("no changed batch was read at all")
	}
}

func TestP1_8Own(t *testing.T) {
	batch := api.Batch{Reqs: []api.Request{{Client: 256, Cmd: []byte{1, 2}}}}
	b, _ := wire.EncodeBatch(batch)
	got, _ := wire.DecodeBatch(b)
	clear(b)
	same(t, "a command whose bytes were written over", got.Reqs[0].Cmd, []byte{1, 2})
	b, _ = wire.EncodeBatch(batch)
	batch.Reqs[0].Cmd[0] = 9
	same(t, "bytes whose batch was written over", b, []byte{0, 1, 0x80, 2, 0, 2, 1, 2})
}

func TestP1_9Bytes(t *testing.T) {
	bal := api.Ballot{Num: 300, Node: 1}
	batch := api.Batch{Stamp: 5, Reqs: []api.Request{{Client: 256, Seq: 1, Cmd: []byte{0xAA}}}}
	snapshot := bytes.Repeat([]byte{7}, 40000)
	for _, c := range []struct {
		rec  api.Record
		want []byte
	}{
		{api.Record{Kind: api.RPromise, Bal: bal}, []byte{1, 0xAC, 2, 1}},
		{api.Record{Kind: api.RPromise}, []byte{1, 0, 0}},
		{api.Record{Kind: api.RVote, Bal: bal, Slot: 128, Batch: batch}, []byte{2, 0xAC, 2, 1, 0x80, 1, 5, 1, 0x80, 2, 1, 1, 0xAA}},
		{api.Record{Kind: api.RVote}, []byte{2, 0, 0, 0, 0, 0}},
		{api.Record{Kind: api.RStart, Bal: bal}, []byte{3, 0xAC, 2, 1}},
		{api.Record{Kind: api.RLow, Slot: 128}, []byte{4, 0x80, 1}},
		{api.Record{Kind: api.RCheck, Slot: 2, Data: []byte{7, 8}}, []byte{5, 2, 2, 7, 8}},
		{api.Record{Kind: api.RCheck}, []byte{5, 0, 0}},
		{api.Record{Kind: api.RCheck, Slot: 1 << 40, Data: snapshot}, join([]byte{5, 0x80, 0x80, 0x80, 0x80, 0x80, 0x20, 0xC0, 0xB8, 2}, snapshot)},
	} {
		b, err := wire.EncodeRecord(c.rec)
		refused(t, "EncodeRecord", err, api.OK, 0)
		same(t, "EncodeRecord", b, c.want)
		got, err := wire.DecodeRecord(c.want)
		refused(t, "DecodeRecord", err, api.OK, 0)
		if !reflect.DeepEqual(got, c.rec) {
			t.Errorf("DecodeRecord: %v, want %v", got, c.rec)
		}
		_, err = wire.DecodeRecord(join(c.want, []byte{0}))
		refused(t, "a byte more", err, api.ErrWireTail, len(c.want))
		for n := range min(len(c.want), 20) {
			if _, err := wire.DecodeRecord(c.want[:n]); err == nil {
				t.Errorf("%d bytes of % x are a record", n, c.want)
			}
		}
	}
}

func TestP1_9EncodeRefusals(t *testing.T) {
	over := uint64(1<<40 + 1)
	bal, batch, data := api.Ballot{Node: 1}, api.Batch{Stamp: 1}, []byte{0}
	many := api.Batch{Reqs: make([]api.Request, 9)}
	for _, c := range []struct {
		what string
		rec  api.Record
		why  api.Errno
		at   int
	}{
		{"kind 0", api.Record{}, api.ErrWireKind, 0},
		{"kind 6", api.Record{Kind: 6, Data: data}, api.ErrWireKind, 0},
		{"kind -1", api.Record{Kind: -1}, api.ErrWireKind, 0},
		{"kind 257", api.Record{Kind: 257}, api.ErrWireKind, 0},
		{"a ballot in RLow", api.Record{Kind: api.RLow, Bal: bal}, api.ErrWireField, 1},
		{"a ballot in RCheck", api.Record{Kind: api.RCheck, Bal: bal, Data: make([]byte, 40001)}, api.ErrWireField, 1},
		{"a slot in RPromise", api.Record{Kind: api.RPromise, Slot: 1, Batch: batch}, api.ErrWireField, 2},
		{"a slot in RStart", api.Record{Kind: api.RStart, Slot: 1}, api.ErrWireField, 2},
		{"a batch in RPromise", api.Record{Kind: api.RPromise, Batch: batch, Data: data}, api.ErrWireField, 3},
		{"a batch in RStart", api.Record{Kind: api.RStart, Batch: many}, api.ErrWireField, 3},
		{"a batch in RLow", api.Record{Kind: api.RLow, Batch: batch}, api.ErrWireField, 3},
		{"a batch in RCheck", api.Record{Kind: api.RCheck, Batch: batch}, api.ErrWireField, 3},
		{"data in RPromise", api.Record{Kind: api.RPromise, Data: data}, api.ErrWireField, 4},
		{"data in RVote", api.Record{Kind: api.RVote, Data: data}, api.ErrWireField, 4},
		{"data in RStart", api.Record{Kind: api.RStart, Data: data}, api.ErrWireField, 4},
		{"data in RLow", api.Record{Kind: api.RLow, Data: data}, api.ErrWireField, 4},
		{"Num above", api.Record{Kind: api.RStart, Bal: api.Ballot{Num: over}}, api.ErrWireField, 1},
		{"Node 7", api.Record{Kind: api.RVote, Bal: api.Ballot{Node: 7}, Slot: over, Batch: many}, api.ErrWireField, 1},
		{"Slot above", api.Record{Kind: api.RVote, Slot: over, Batch: many}, api.ErrWireField, 2},
		{"a check's Slot above", api.Record{Kind: api.RCheck, Slot: over, Data: make([]byte, 40001)}, api.ErrWireField, 2},
		{"RLow's Slot above", api.Record{Kind: api.RLow, Slot: math.MaxUint64}, api.ErrWireField, 2},
		{"40001 bytes", api.Record{Kind: api.RCheck, Data: make([]byte, 40001)}, api.ErrWireLong, 4},
		{"lists that are empty", api.Record{Kind: api.RLow, Batch: api.Batch{Reqs: []api.Request{}}, Data: []byte{}}, api.OK, 0},
	} {
		b, err := wire.EncodeRecord(c.rec)
		refused(t, c.what, err, c.why, c.at)
		if err != nil {
			same(t, c.what, b, nil)
		}
	}
	for what, c := range badBatches() {
		_, err := wire.EncodeRecord(api.Record{Kind: api.RVote, Batch: c.batch, Data: data})
		refused(t, what, err, c.why, 3)
	}
}

func TestP1_9DecodeRefusals(t *testing.T) {
	over := []byte{0x81, 0x80, 0x80, 0x80, 0x80, 0x20}
	for _, c := range []struct {
		what string
		b    []byte
		why  api.Errno
		at   int
	}{
		{"nothing", nil, api.ErrWireShort, 0},
		{"an empty list", []byte{}, api.ErrWireShort, 0},
		{"kind 0", []byte{0}, api.ErrWireKind, 0},
		{"kind 6", []byte{6, 1}, api.ErrWireKind, 0},
		{"kind 255", []byte{255, 1}, api.ErrWireKind, 0},
		{"no ballot", []byte{1}, api.ErrWireShort, 1},
		{"no Node", []byte{3, 3}, api.ErrWireShort, 2},
		{"Num above", join([]byte{1}, over, []byte{0}), api.ErrWireField, 1},
		{"Node 7", []byte{1, 3, 7}, api.ErrWireField, 2},
		{"Slot above", join([]byte{2, 3, 1}, over), api.ErrWireField, 3},
		{"Stamp above", join([]byte{2, 3, 1, 9}, over, []byte{0}), api.ErrWireField, 4},
		{"nine requests", []byte{2, 3, 1, 9, 0, 9}, api.ErrWireLong, 5},
		{"a client of 255", []byte{2, 3, 1, 9, 0, 1, 0xFF, 1, 0, 0}, api.ErrWireField, 6},
		{"RLow's Slot above", join([]byte{4}, over), api.ErrWireField, 1},
		{"RLow in a wrong form", []byte{4, 0x80, 0}, api.ErrWireForm, 1},
		{"a check's Slot above", join([]byte{5}, over, []byte{0}), api.ErrWireField, 1},
		{"40001 bytes", []byte{5, 1, 0xC1, 0xB8, 2}, api.ErrWireLong, 2},
		{"a snapshot cut", []byte{5, 1, 3, 1}, api.ErrWireShort, 2},
		{"a byte more", []byte{4, 0x80, 1, 0}, api.ErrWireTail, 3},
	} {
		kept := bytes.Clone(c.b)
		rec, err := wire.DecodeRecord(c.b)
		refused(t, c.what, err, c.why, c.at)
		if !reflect.DeepEqual(rec, api.Record{}) {
			t.Errorf("%s: a refusal with %v", c.what, rec)
		}
		if !bytes.Equal(c.b, kept) {
			t.Errorf("%s: the bytes were changed", c.what)
		}
	}
}

// anyRecord throws a record that may be.
func anyRecord(d *dice) api.Record {
	bal, slot := anyBallot(d), d.number(api.MaxSlots)
	switch kind := api.RecKind(1 + d.below(5)); kind {
	case api.RPromise, api.RStart:
		return api.Record{Kind: kind, Bal: bal}
	case api.RVote:
		return api.Record{Kind: kind, Bal: bal, Slot: slot, Batch: anyBatch(d)}
	case api.RLow:
		return api.Record{Kind: kind, Slot: slot}
	default:
		return api.Record{Kind: kind, Slot: slot, Data: d.bytes(d.below(500))}
	}
}

func TestP1_9ThereAndBack(t *testing.T) {
	d, taken := &dice{9}, 0
	for range 5000 {
		rec := anyRecord(d)
		b, err := wire.EncodeRecord(rec)
		refused(t, "a record", err, api.OK, 0)
		got, err := wire.DecodeRecord(b)
		refused(t, "a record, read", err, api.OK, 0)
		if !reflect.DeepEqual(got, rec) {
			t.Fatalf("%v is read back as %v", rec, got)
		}
		b[d.below(min(len(b), 12))] = byte(d.next() >> 9 & 0x83)
		got, err = wire.DecodeRecord(b)
		if err != nil {
			continue
		}
		taken++
		back, err := wire.EncodeRecord(got)
		refused(t, "a changed record, written", err, api.OK, 0)
		same(t, "a changed record, written", back, b)
	}
	if taken == 0 {
		t.Error("no changed record was read at all")
	}
}

func TestP1_9Own(t *testing.T) {
	rec := api.Record{Kind: api.RCheck, Slot: 1, Data: []byte{1, 2}}
	b, _ := wire.EncodeRecord(rec)
	got, _ := wire.DecodeRecord(b)
	clear(b)
	same(t, "a snapshot whose bytes were written over", got.Data, []byte{1, 2})
	b, _ = wire.EncodeRecord(rec)
	rec.Data[0] = 9
	same(t, "bytes whose record was written over", b, []byte{5, 1, 2, 1, 2})
}
