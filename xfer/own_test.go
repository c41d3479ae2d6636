package xfer_test

import (
	"testing"

	"quorum/api"
	"quorum/xfer"
)

// spoilBytes writes over bytes, spare room included.
func spoilBytes(b []byte) {
	for i := range b[:cap(b)] {
		b[:cap(b)][i] ^= 0xEE
	}
}

// spoilPath writes over a path, spare room included.
func spoilPath(p []api.Hash) {
	for i := range p[:cap(p)] {
		p[:cap(p)][i][7] ^= 0xEE
	}
}

// spoilSends writes over all that a list of sends reaches.
func spoilSends(sends []api.Send) {
	for i := range sends[:cap(sends)] {
		s := &sends[:cap(sends)][i]
		spoilBytes(s.Msg.Data)
		spoilPath(s.Msg.Path)
		*s = api.Send{To: 999}
	}
}

// roomy gives the same bytes with spare room behind.
func roomy(b []byte) []byte { return append(make([]byte, 0, len(b)+50), b...) }

// What is handed in is neither changed nor kept.
func TestOwnHandedIn(t *testing.T) {
	data := bytesOf(0, 2500)
	s := supplierOf(t, small(), 1)
	in := roomy(data)
	put(t, s, 8, in)
	if !same(in, data) {
		t.Error("Put has changed the snapshot")
	}
	spoilBytes(in)
	isSupplier(t, "the snapshot is spoilt", s, 8, data)
	f := aimed(t)
	for i := range 3 {
		m := give(8, data, i)
		m.Data, m.Path = roomy(m.Data), append(make([]api.Hash, 0, 9), m.Path...)
		f.Give(1, m, 100)
		if !same(m, give(8, data, i)) {
			t.Errorf("chunk %d is another now", i)
		}
		spoilBytes(m.Data)
		spoilPath(m.Path)
		isFetcher(t, "a chunk is spoilt", f, takenState(data, i+1))
	}
}

// What is handed out is new: nothing that is done with it reaches supplier or fetcher, or another answer.
func TestOwnHandedOut(t *testing.T) {
	data := bytesOf(0, 2500)
	s := having(t, 1, 8, data)
	first := s.Want(0, want(8, 1))
	for slot := range uint64(9) {
		spoilSends(s.Want(0, want(slot, 1)))
	}
	isSupplier(t, "answers are spoilt", s, 8, data)
	put(t, s, 9, bytesOf(1, 4000))
	if !same(first, sent(0, give(8, data, 1))) {
		t.Error("what was told has turned with the supplier")
	}
	for n := 1; n <= 3; n++ {
		f := taken(t, data, n)
		state := f.State()
		_, ready, _ := f.Ready()
		spoilt := f.State()
		for _, c := range spoilt.Chunks {
			spoilBytes(c)
		}
		for i := range spoilt.Chunks[:cap(spoilt.Chunks)] {
			spoilt.Chunks[:cap(spoilt.Chunks)][i] = nil
		}
		_, whole, _ := f.Ready()
		spoilBytes(whole)
		isFetcher(t, "answers are spoilt", f, takenState(data, n))
		spoilSends(f.Give(1, give(8, data, n%3), 100))
		spoilSends(f.Tick(200))
		spoilSends(f.Aim(1, 50, 0, 201))
		if !same(state, takenState(data, n)) || n == 3 && !same(ready, data) {
			t.Error("what was told has turned with the fetcher")
		}
	}
}

// No two lists of one answer share any.
func TestOwnApart(t *testing.T) {
	data := bytesOf(0, 5000)
	for spoilt := range 5 {
		st := taken(t, data, 5).State()
		spoilBytes(st.Chunks[spoilt])
		st.Chunks[spoilt] = cut(data)[spoilt]
		if !same(st, takenState(data, 5)) {
			t.Errorf("chunk %d spoilt", spoilt)
		}
		s := having(t, 1, 8, data)
		m := s.Want(0, want(8, uint64(spoilt)))[0].Msg
		spoilBytes(m.Data)
		if !same(m.Path, pathOf(cut(data), spoilt)) {
			t.Error("a spoilt chunk has changed its path")
		}
	}
}

// Two suppliers, and two fetchers, share nothing.
func TestOwnTwins(t *testing.T) {
	data, other := bytesOf(0, 2500), bytesOf(1, 3000)
	a, b := having(t, 1, 8, data), having(t, 1, 8, data)
	put(t, a, 9, other)
	isSupplier(t, "the other supplier", b, 8, data)
	f, g := taken(t, data, 1), taken(t, data, 1)
	f.Give(1, give(8, data, 1), 101)
	isFetcher(t, "the other fetcher", g, takenState(data, 1))
	f.Give(1, give(9, other, 0), 102)
	f.Tick(900)
	f.Drop(50)
	isFetcher(t, "the other fetcher", g, takenState(data, 1))
}

// A goal that was given up leaves nothing in the lists of the next one.
func TestOwnGoals(t *testing.T) {
	f := fetcherOf(t, small(), 0)
	for slot := uint64(1); slot < 60; slot++ {
		data := bytesOf(slot, 1000+int(slot)*300)
		chunks := cut(data)
		if slot%3 > 0 {
			f.Aim(1, slot, 0, slot)
		} else {
			f.Give(1, part(slot, chunks, 0), slot)
		}
		upTo := 1 + int(slot*7)%len(chunks)
		for i := range upTo {
			f.Give(1, part(slot, chunks, i), slot)
		}
		isFetcher(t, "goal by goal", f, api.FetcherState{Goal: slot, From: 1, Count: uint64(len(chunks)), Root: rootOf(chunks), Chunks: chunks[:upTo], Last: slot})
	}
}

// A supplier and a fetcher that are nil, or that no call here gave.
func TestNobody(t *testing.T) {
	data := bytesOf(0, 2500)
	for what, s := range map[string]*xfer.Supplier{"nil": nil, "plain": {}} {
		for range 2 {
			for _, slot := range []uint64{0, 1, 8, most} {
				for _, b := range [][]byte{data, nil, make([]byte, 40001)} {
					isFault(t, what+": Put", s.Put(slot, b), api.ErrZero, 0)
				}
				for src := range api.Addr(4) {
					if got := s.Want(src, want(slot, 0)); got != nil {
						t.Errorf("%s: Want: %+v", what, got)
					}
				}
			}
			if s.State() != (api.SupplierState{}) {
				t.Errorf("%s: %+v", what, s.State())
			}
		}
	}
	for what, f := range map[string]*xfer.Fetcher{"nil": nil, "plain": {}} {
		for range 2 {
			for src := range api.Addr(4) {
				for _, slot := range []uint64{0, 1, 8, most} {
					silent(t, what+": Aim", f, func() []api.Send { return f.Aim(src, slot, 0, 5) })
					silent(t, what+": Give", f, func() []api.Send { return f.Give(src, give(slot, data, 0), 5) })
				}
			}
			for _, now := range []uint64{0, 1 << 40, most} {
				silent(t, what+": Tick", f, func() []api.Send { return f.Tick(now) })
				f.Drop(now)
			}
			isFetcher(t, what, f, api.FetcherState{})
		}
	}
}
