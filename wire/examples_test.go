package wire_test

import (
	"testing"

	"quorum/api"
	"quorum/wire"
)

// The ten examples of chapter 1, by their numbers.

// withSum puts the sum of the bytes behind them, its low byte first.
func withSum(b ...byte) []byte {
	s := wire.Sum(b)
	return append(b, byte(s), byte(s>>8), byte(s>>16), byte(s>>24))
}

func TestExample1(t *testing.T) {
	b, err := wire.EncodeMsg(api.Msg{Kind: api.KPrepare, Bal: api.Ballot{Num: 3, Node: 1}})
	refused(t, "KPrepare", err, api.OK, 0)
	same(t, "KPrepare", b, withSum(0x51, 0x4D, 1, 3, 0, 0, 0, 2, 3, 1))
}

func TestExample2(t *testing.T) {
	b, _ := wire.EncodeMsg(api.Msg{Kind: api.KPrepare, Bal: api.Ballot{Num: 3, Node: 1}})
	b[3] = 0x0C
	_, err := wire.DecodeMsg(b)
	refused(t, "with the old sum", err, api.ErrWireSum, 10)
	_, err = wire.DecodeMsg(withSum(b[:10]...))
	refused(t, "with its own sum", err, api.ErrWireKind, 3)
}

func TestExamples3And4(t *testing.T) {
	for _, c := range []struct {
		kind uint8
		body []byte
		why  api.Errno
		at   int
	}{
		{3, []byte{3, 1, 0}, api.ErrWireTail, 10},
		{3, []byte{3}, api.ErrWireShort, 9},
		{3, []byte{0x83, 0, 1}, api.ErrWireForm, 8},
		{3, []byte{3, 7}, api.ErrWireField, 9},
		{4, []byte{5, 2, 0x0A, 1, 9, 1, 0, 0, 0}, api.ErrWireOrder, 12},
	} {
		_, err := wire.DecodeMsg(framed(t, c.kind, c.body...))
		refused(t, "DecodeMsg", err, c.why, c.at)
	}
}

func TestExample5(t *testing.T) {
	r := wire.NewReader([]byte{2, 0xC3, 0xA9, 5})
	if s := r.Text(10); s != "é" || r.At() != 3 {
		t.Errorf("Text %q, At %d", s, r.At())
	}
	if r.Flag() {
		t.Error("Flag is true")
	}
	refused(t, "Flag", r.Err(), api.ErrWireForm, 3)
	if r.U8() != 0 || r.At() != 3 || r.Left() != 1 {
		t.Errorf("behind it: At %d, Left %d", r.At(), r.Left())
	}
}

func TestExample6(t *testing.T) {
	w := wire.NewWriter(3)
	w.U16(1)
	w.Blob([]byte{7}, 5)
	b, err := w.Bytes()
	refused(t, "Blob", err, api.ErrWireLong, 2)
	same(t, "Bytes", b, nil)
	if w.Len() != 2 {
		t.Errorf("Len %d", w.Len())
	}
}

func TestExample7(t *testing.T) {
	_, err := wire.EncodeMsg(api.Msg{Kind: api.KRequest, Seq: 4, Slot: 1})
	refused(t, "a Slot", err, api.ErrWireField, 2)
	_, err = wire.EncodeMsg(api.Msg{Kind: api.KRequest, Cmd: make([]byte, 701)})
	refused(t, "701 bytes", err, api.ErrWireLong, 9)
}

func TestExample8(t *testing.T) {
	b, err := wire.EncodeBatch(api.Batch{Stamp: 300, Reqs: []api.Request{{Client: 256, Seq: 1, Cmd: []byte{0xAA}}}})
	refused(t, "EncodeBatch", err, api.OK, 0)
	same(t, "EncodeBatch", b, []byte{0xAC, 2, 1, 0x80, 2, 1, 1, 0xAA})
}

func TestExample9(t *testing.T) {
	b, err := wire.EncodeRecord(api.Record{Kind: api.RLow, Slot: 128})
	refused(t, "EncodeRecord", err, api.OK, 0)
	same(t, "EncodeRecord", b, []byte{4, 0x80, 1})
	_, err = wire.DecodeRecord([]byte{4, 0x80, 1, 0})
	refused(t, "DecodeRecord", err, api.ErrWireTail, 3)
}

func TestExample10(t *testing.T) {
	d := &dice{10}
	for range 20 {
		_, _, err := wire.Unframe(d.bytes(11))
		refused(t, "eleven bytes", err, api.ErrWireShort, 11)
	}
}
