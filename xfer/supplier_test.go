package xfer_test

import (
	"testing"

	"quorum/api"
	"quorum/wire"
)

// Each refusal alone and with the other one, ahead of any snapshot and behind one.
func TestP14_2Refused(t *testing.T) {
	long, fine := make([]byte, 40001), bytesOf(1, 3000)
	s := supplierOf(t, small(), 1)
	for _, slot := range []uint64{0, 101, 102, 1 << 40, 1 << 63, most} {
		for _, data := range [][]byte{fine, nil, {}, long} {
			isFault(t, "a slot", s.Put(slot, data), api.ErrXferSlot, 0)
		}
	}
	for _, slot := range []uint64{1, 8, 100} {
		for _, data := range [][]byte{nil, {}, long, make([]byte, 100000)} {
			isFault(t, "a snapshot", s.Put(slot, data), api.ErrXferSnap, 0)
		}
	}
	if s.State() != (api.SupplierState{}) || s.Want(0, want(0, 0)) != nil {
		t.Error("a refusal has left something")
	}
	put(t, s, 8, fine)
	for _, slot := range []uint64{0, 1, 7, 101, most} {
		for _, data := range [][]byte{bytesOf(2, 900), nil, long} {
			isFault(t, "a slot behind 8", s.Put(slot, data), api.ErrXferSlot, 0)
		}
	}
	for _, slot := range []uint64{8, 9, 100} {
		isFault(t, "no bytes", s.Put(slot, nil), api.ErrXferSnap, 0)
		isFault(t, "too many bytes", s.Put(slot, long), api.ErrXferSnap, 0)
	}
	isSupplier(t, "behind all refusals", s, 8, fine)
}

// A snapshot takes the place of one of the same or of a lower slot, up to the last slot, of any size.
func TestP14_2Taken(t *testing.T) {
	s := supplierOf(t, small(), 2)
	for i, slot := range []uint64{1, 1, 2, 8, 8, 99, 100, 100} {
		for _, n := range []int{1, 2500, 40000, 1024} {
			data := bytesOf(uint64(i), n)
			put(t, s, slot, data)
			isSupplier(t, "in its place", s, slot, data)
		}
	}
	s = supplierOf(t, narrow(), 1)
	put(t, s, 1, []byte{7})
	isSupplier(t, "the one slot", s, 1, []byte{7})
	isFault(t, "behind the one slot", s.Put(2, []byte{7}), api.ErrXferSlot, 0)
	s = supplierOf(t, wide(), 6)
	put(t, s, 1<<40, []byte{7})
	isSupplier(t, "the last slot", s, 1<<40, []byte{7})
	isFault(t, "behind the last slot", s.Put(1<<40+1, []byte{7}), api.ErrXferSlot, 0)
}

// All chunks of all sizes, as a second tree says.
func TestP14_3Chunks(t *testing.T) {
	for _, n := range sizes() {
		data := bytesOf(uint64(n), n)
		s := having(t, 1, 8, data)
		isSupplier(t, "a size", s, 8, data)
		count := uint64(len(cut(data)))
		for _, index := range []uint64{count, count + 1, 40, 41, 1 << 31, 1 << 32, 1<<32 + 1, 1 << 63, 1<<63 + 1, most - 1, most} {
			if got := s.Want(0, want(8, index)); index >= count && got != nil {
				t.Errorf("%d bytes have a chunk %d", n, index)
			}
		}
	}
}

// Who asks: any peer is answered, and nobody else.
func TestP14_3Peers(t *testing.T) {
	data := bytesOf(4, 2500)
	for f := 1; f <= api.MaxF; f++ {
		n := 2*f + 1
		for self := range n {
			s := supplierOf(t, withF(f), self)
			put(t, s, 8, data)
			for _, src := range strangers(n, self) {
				for _, slot := range []uint64{0, 7, 8, 9} {
					if got := s.Want(src, want(slot, 0)); got != nil {
						t.Errorf("%d of %d answers %d: %+v", self, n, src, got)
					}
				}
			}
			for _, src := range peers(n, self) {
				if got := s.Want(src, want(8, 2)); !same(got, sent(src, give(8, data, 2))) {
					t.Errorf("%d of %d answers the peer %d: %+v", self, n, src, got)
				}
			}
		}
	}
}

func TestP14_3Kinds(t *testing.T) {
	data := bytesOf(4, 2500)
	s := having(t, 1, 8, data)
	for _, kind := range []api.Kind{-1, 0, 1, 2, 3, 4, 5, 6, 7, 8, 10, 11, 12, 9 + 1<<32, 265} {
		for _, slot := range []uint64{0, 8} {
			if got := s.Want(0, api.Msg{Kind: kind, Slot: slot}); got != nil {
				t.Errorf("kind %d: %+v", kind, got)
			}
		}
	}
}

// A lower slot gets the first chunk, whatever is wanted of it; a higher one nothing.
func TestP14_3Slots(t *testing.T) {
	data := bytesOf(5, 2500)
	s := having(t, 1, 8, data)
	for _, index := range []uint64{0, 1, 2, 3, 39, 40, 1 << 32, 1 << 63, most} {
		for _, slot := range []uint64{0, 1, 4, 7} {
			if got := s.Want(2, want(slot, index)); !same(got, sent(2, give(8, data, 0))) {
				t.Errorf("chunk %d of slot %d: %+v", index, slot, got)
			}
		}
		for _, slot := range []uint64{9, 100, 101, 1 << 40, 1 << 63, most} {
			if got := s.Want(2, want(slot, index)); got != nil {
				t.Errorf("chunk %d of slot %d: %+v", index, slot, got)
			}
		}
	}
}

// Fields that a want does not use are not looked at.
func TestP14_3Unused(t *testing.T) {
	data := bytesOf(6, 2500)
	s := having(t, 1, 8, data)
	m := give(8, data, 1)
	m.Kind, m.Bal, m.Low, m.Seq, m.Stamp, m.Code, m.Suspect = api.KWant, api.Ballot{Num: 9, Node: -4}, 77, 5, most, -3, true
	m.Votes, m.Batch, m.Cmd = make([]api.Vote, 3), api.Batch{Stamp: 4}, []byte{1}
	if got := s.Want(0, m); !same(got, sent(0, give(8, data, 1))) {
		t.Errorf("%+v", got)
	}
}

// To want changes nothing: State tells the same.
func TestP14_4State(t *testing.T) {
	data := bytesOf(7, 5000)
	s := having(t, 1, 8, data)
	was := s.State()
	for slot := range uint64(12) {
		for index := range uint64(8) {
			s.Want(api.Addr(index%4), want(slot, index))
		}
	}
	if s.State() != was || was != (api.SupplierState{Slot: 8, Count: 5, Root: rootOf(cut(data))}) {
		t.Errorf("%+v, was %+v", s.State(), was)
	}
	isSupplier(t, "wanted of", s, 8, data)
}

// What supplier and fetcher send can be written as datagrams, and is read back as it was.
func TestP14_3OnTheWire(t *testing.T) {
	for _, n := range sizes() {
		s, f := supplierOf(t, wide(), 1), fetcherOf(t, wide(), 0)
		put(t, s, 1<<40, bytesOf(0, n))
		for sends := f.Aim(1, 1<<40, 0, 0); len(sends) > 0; {
			overWire(t, sends)
			back := s.Want(0, sends[0].Msg)
			overWire(t, back)
			sends = f.Give(1, back[0].Msg, 0)
		}
	}
}

func overWire(t *testing.T, sends []api.Send) {
	t.Helper()
	for _, one := range sends {
		b, err := wire.EncodeMsg(one.Msg)
		if err != nil {
			t.Fatalf("%+v: %v", one.Msg, err)
		}
		if m, err := wire.DecodeMsg(b); err != nil || !same(m, one.Msg) {
			t.Fatalf("%+v: %+v %v", one.Msg, m, err)
		}
	}
}
