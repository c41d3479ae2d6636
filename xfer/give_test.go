package xfer_test

import (
	"testing"

	"quorum/api"
	"quorum/xfer"
)

// turned gives a message with one thing changed.
func turned(m api.Msg, change func(*api.Msg)) api.Msg {
	change(&m)
	return m
}

// withChunk gives these chunks with another one in a place.
func withChunk(chunks [][]byte, i int, c []byte) [][]byte {
	all := append([][]byte(nil), chunks...)
	all[i] = c
	return all
}

// badGives are messages for the goal 8 of the small configuration that are not well formed, each for one reason; the trees are right in all of them but where that is the reason.
func badGives() map[string]api.Msg {
	three, forty := cut(bytesOf(0, 2500)), cut(bytesOf(0, 40000))
	first := func() api.Msg { return part(8, three, 0) }
	bad := map[string]api.Msg{
		"no message":               {},
		"a give of nothing":        {Kind: api.KGive, Slot: 8},
		"a slot past the last":     part(101, three, 0),
		"a slot far past the last": part(most, three, 0),
		"no chunks":                turned(first(), func(m *api.Msg) { m.Count = 0 }),
		"an empty one of one":      part(8, [][]byte{{}}, 0),
		"an empty one of two":      part(8, [][]byte{make([]byte, 1024), {}}, 1),
		"an empty first of two":    part(8, [][]byte{{}, make([]byte, 1024)}, 0),
		"41 chunks, the first":     part(8, cut(bytesOf(0, 41000)), 0),
		"41 chunks, the last":      part(8, cut(bytesOf(0, 41000)), 40),
		"very many chunks":         turned(first(), func(m *api.Msg) { m.Count = most }),
		"2^54 chunks more":         turned(first(), func(m *api.Msg) { m.Count += 1 << 54 }),
		"40001 bytes, the last":    part(8, cut(bytesOf(0, 40001)), 39),
		"its index is the count":   turned(part(8, three, 2), func(m *api.Msg) { m.Index = 3 }),
		"its index is far off":     turned(first(), func(m *api.Msg) { m.Index = most }),
		"its index is 2^63":        turned(first(), func(m *api.Msg) { m.Index = 1 << 63 }),
		"1023 bytes, not the last": part(8, withChunk(three, 0, make([]byte, 1023)), 0),
		"1025 bytes, not the last": part(8, withChunk(three, 0, make([]byte, 1025)), 0),
		"1 byte, not the last":     part(8, withChunk(three, 1, make([]byte, 1)), 1),
		"1025 bytes, the last":     part(8, withChunk(three, 2, make([]byte, 1025)), 2),
		"1025 bytes, the only one": part(8, [][]byte{make([]byte, 1025)}, 0),
		"65 bytes behind 39":       part(8, withChunk(forty, 39, make([]byte, 65)), 39),
		"the whole in one":         part(8, [][]byte{bytesOf(0, 2500)}, 0),
		"another root":             turned(first(), func(m *api.Msg) { m.Root[31] ^= 1 }),
		"no root":                  turned(first(), func(m *api.Msg) { m.Root = api.Hash{} }),
		"another byte":             turned(first(), func(m *api.Msg) { m.Data[1023] ^= 128 }),
		"a byte less":              turned(first(), func(m *api.Msg) { m.Data = m.Data[:1023] }),
		"a byte more":              turned(first(), func(m *api.Msg) { m.Data = append(m.Data, 0) }),
		"no bytes":                 turned(first(), func(m *api.Msg) { m.Data = nil }),
		"another path":             turned(first(), func(m *api.Msg) { m.Path[1][0] ^= 1 }),
		"a path of others":         turned(first(), func(m *api.Msg) { m.Path = pathOf(three, 1) }),
		"a path turned round":      turned(first(), func(m *api.Msg) { m.Path[0], m.Path[1] = m.Path[1], m.Path[0] }),
		"a path too short":         turned(first(), func(m *api.Msg) { m.Path = m.Path[:1] }),
		"a path too long":          turned(first(), func(m *api.Msg) { m.Path = append(m.Path, api.Hash{}) }),
		"no path":                  turned(first(), func(m *api.Msg) { m.Path = nil }),
		"a path of one chunk":      turned(part(8, three[2:], 0), func(m *api.Msg) { m.Path = make([]api.Hash, 1) }),
		"another index":            turned(first(), func(m *api.Msg) { m.Index = 1 }),
		"five chunks":              turned(first(), func(m *api.Msg) { m.Count = 5 }),
		"two chunks":               turned(first(), func(m *api.Msg) { m.Count = 2 }),
	}
	// A row's sum is not a leaf's: two sums one behind the other are no chunk.
	a, b := leaf(three[0]), leaf(three[1])
	bad["a row as a leaf"] = api.Msg{Kind: api.KGive, Slot: 8, Count: 1, Root: rootOf(three[:2]), Data: append(append([]byte(nil), a[:]...), b[:]...)}
	return bad
}

// Each reason for nothing alone, wherever the fetch stands, whether the message is for the goal or for a later slot.
func TestP14_7NotWellFormed(t *testing.T) {
	for what, m := range badGives() {
		for where, f := range standing(t) {
			for src := range api.Addr(3) {
				silent(t, where+": "+what, f, func() []api.Send { return f.Give(src, m, 200) })
			}
			later := m
			if later.Slot == 8 {
				later.Slot = 12
			}
			silent(t, where+", later: "+what, f, func() []api.Send { return f.Give(1, later, 200) })
		}
	}
}

// Each bad message that is the next chunk of the goal, where it would be taken if it were good.
func TestP14_7Spoilt(t *testing.T) {
	data := bytesOf(0, 2500)
	for i := range 3 {
		for what, change := range map[string]func(*api.Msg){
			"another byte": func(m *api.Msg) { m.Data[0]++ },
			"a byte less":  func(m *api.Msg) { m.Data = m.Data[1:] },
			"a byte more":  func(m *api.Msg) { m.Data = append(m.Data, 9) },
			"path":         func(m *api.Msg) { m.Path[0][9] ^= 16 },
			"a path less":  func(m *api.Msg) { m.Path = m.Path[1:] },
			"a path more":  func(m *api.Msg) { m.Path = append(m.Path, m.Path[0]) },
			"root":         func(m *api.Msg) { m.Root[5] ^= 2 },
			"index":        func(m *api.Msg) { m.Index = (m.Index + 1) % 3 },
		} {
			f := taken(t, data, i)
			silent(t, what, f, func() []api.Send { return f.Give(1, turned(give(8, data, i), change), 101) })
		}
		for kind := api.Kind(-1); kind < 13; kind++ {
			f := taken(t, data, i)
			m := give(8, data, i)
			m.Kind = kind
			if kind != api.KGive {
				silent(t, "another kind", f, func() []api.Send { return f.Give(1, m, 101) })
			}
		}
	}
}

// Every bit of a chunk, of its path and of its root counts.
func TestP14_7Bits(t *testing.T) {
	data := bytesOf(0, 1100)
	f := taken(t, data, 1)
	was := f.State()
	for bit := range 8 * (76 + 32 + 32) {
		m := give(8, data, 1)
		switch at, mask := bit/8, byte(1)<<(bit%8); {
		case at < 76:
			m.Data[at] ^= mask
		case at < 108:
			m.Path[0][at-76] ^= mask
		default:
			m.Root[at-108] ^= mask
		}
		if got := f.Give(1, m, 101); got != nil {
			t.Fatalf("bit %d: %+v", bit, got)
		}
	}
	isFetcher(t, "behind all bits", f, was)
	if got := f.Give(1, give(8, data, 1), 101); got != nil || !same(f.State().Chunks, cut(data)) {
		t.Error("the right one is not taken")
	}
}

func TestP14_7Peers(t *testing.T) {
	data := bytesOf(0, 2500)
	for bears := 1; bears <= api.MaxF; bears++ {
		n := 2*bears + 1
		for self := range n {
			for _, src := range peers(n, self) {
				f := fetcherOf(t, withF(bears), self)
				f.Aim(peers(n, self)[0], 8, 5, 100)
				for _, s := range strangers(n, self) {
					silent(t, "no peer", f, func() []api.Send { return f.Give(s, give(8, data, 0), 101) })
					silent(t, "no peer, later", f, func() []api.Send { return f.Give(s, give(9, data, 0), 101) })
				}
				asks(t, "a peer", f.Give(src, give(8, data, 0), 102), src, 8, 1)
				isFetcher(t, "a peer", f, api.FetcherState{Goal: 8, From: int(src), Count: 3, Root: rootOf(cut(data)), Chunks: cut(data)[:1], Last: 102})
			}
		}
	}
}

// A later snapshot's first chunk is a new goal, wherever the fetch stands, with one chunk or with more.
func TestP14_7Later(t *testing.T) {
	for _, slot := range []uint64{9, 12, 99, 100} {
		for _, n := range []int{1, 1024, 1025, 2500, 40000} {
			data := bytesOf(slot, n)
			chunks := cut(data)
			for what, f := range standing(t) {
				if what == "idle" {
					silent(t, what, f, func() []api.Send { return f.Give(2, part(slot, chunks, 0), 200) })
					continue
				}
				for i := 1; i < len(chunks); i++ {
					silent(t, what+", ahead of the first", f, func() []api.Send { return f.Give(2, part(slot, chunks, i), 150) })
				}
				got := f.Give(2, part(slot, chunks, 0), 200)
				if len(chunks) > 1 {
					asks(t, what, got, 2, slot, 1)
				} else if got != nil {
					t.Errorf("%s: %+v", what, got)
				}
				isFetcher(t, what, f, api.FetcherState{Goal: slot, From: 2, Count: uint64(len(chunks)), Root: rootOf(chunks), Chunks: chunks[:1], Last: 200})
			}
		}
	}
}

// A lower slot's chunks are let go, wherever the fetch stands.
func TestP14_7Lower(t *testing.T) {
	data := bytesOf(0, 2500)
	for what, f := range standing(t) {
		for _, slot := range []uint64{0, 1, 7} {
			for i := range 3 {
				silent(t, what, f, func() []api.Send { return f.Give(1, give(slot, data, i), 200) })
			}
		}
	}
}

// Of the goal's chunks only the next one joins, and only if count and root are those of the first.
func TestP14_7Next(t *testing.T) {
	data := bytesOf(0, 5000)
	for n := range 5 {
		f := taken(t, data, n)
		for i := range 5 {
			if i != n {
				silent(t, "not the next", f, func() []api.Send { return f.Give(1, give(8, data, i), 101) })
			}
		}
		if n > 0 {
			for what, other := range map[string][]byte{"of the same size": bytesOf(1, 5000), "shorter": bytesOf(0, 4999), "of six": bytesOf(0, 6000), "of eight": bytesOf(0, 8000)} {
				silent(t, "the next of another, "+what, f, func() []api.Send { return f.Give(1, give(8, other, n), 101) })
			}
		}
		got := f.Give(2, give(8, data, n), 101)
		if n < 4 {
			asks(t, "the next", got, 2, 8, uint64(n+1))
		} else if got != nil {
			t.Errorf("the last: %+v", got)
		}
		st := takenState(data, n+1)
		st.From, st.Last = 2, 101
		isFetcher(t, "the next", f, st)
	}
}

// As long as no chunk has come any root and count may.
func TestP14_7First(t *testing.T) {
	for _, n := range sizes() {
		data := bytesOf(3, n)
		chunks := cut(data)
		f := aimed(t)
		for i := range chunks {
			now := uint64(200 + i)
			got := f.Give(1, part(8, chunks, i), now)
			if i+1 < len(chunks) {
				asks(t, "a chunk", got, 1, 8, uint64(i+1))
			} else if got != nil {
				t.Errorf("%d bytes, the last chunk: %+v", n, got)
			}
			st := takenState(data, i+1)
			st.Last = now
			isFetcher(t, "a chunk", f, st)
		}
		for i := range chunks {
			silent(t, "behind the last", f, func() []api.Send { return f.Give(2, part(8, chunks, i), 300) })
		}
		silent(t, "another one, complete", f, func() []api.Send { return f.Give(2, give(8, bytesOf(4, n), 0), 300) })
	}
}

// A first chunk does not prove how many there are: of three and of four the way to the root is as long. It is taken as it says, and what says otherwise does not join it.
func TestP14_7Count(t *testing.T) {
	data := bytesOf(0, 2500)
	f := aimed(t)
	m := turned(give(8, data, 0), func(m *api.Msg) { m.Count = 4 })
	asks(t, "as if of four", f.Give(1, m, 101), 1, 8, 1)
	silent(t, "of three", f, func() []api.Send { return f.Give(1, give(8, data, 1), 102) })
	st := takenState(data, 1)
	st.Count, st.Last = 4, 101
	isFetcher(t, "as if of four", f, st)
	m = turned(give(8, data, 1), func(m *api.Msg) { m.Count = 4 })
	asks(t, "of four", f.Give(1, m, 103), 1, 8, 2)
}

// A first chunk under another root does not join in the goal's place, nor does it push the goal away.
func TestP14_7OtherRoot(t *testing.T) {
	data, other := bytesOf(0, 2500), bytesOf(1, 2500)
	f := taken(t, data, 1)
	silent(t, "another first", f, func() []api.Send { return f.Give(2, give(8, other, 0), 101) })
	silent(t, "another next", f, func() []api.Send { return f.Give(2, give(8, other, 1), 101) })
	f.Drop(8)
	f.Aim(2, 8, 0, 102)
	asks(t, "behind Drop", f.Give(2, give(8, other, 0), 103), 2, 8, 1)
}

// The clock is taken as it is, also one that has gone back or is past the last tick.
func TestP14_7Now(t *testing.T) {
	data := bytesOf(0, 2500)
	for _, now := range []uint64{0, 1, 99, 100, 1 << 40, 1<<40 + 1, 1 << 63, most} {
		for n := range 3 {
			f := taken(t, data, n)
			f.Give(2, give(8, data, n), now)
			st := takenState(data, n+1)
			st.From, st.Last = 2, now
			isFetcher(t, "a clock", f, st)
		}
	}
}

// Fields that a give does not use are not looked at; lists that are empty are as nil.
func TestP14_7Unused(t *testing.T) {
	data := bytesOf(0, 800)
	f := aimed(t)
	m := give(8, data, 0)
	m.Bal, m.Low, m.Seq, m.Stamp, m.Code, m.Suspect = api.Ballot{Num: 9, Node: -4}, 77, 5, most, -3, true
	m.Votes, m.Batch, m.Cmd, m.Path = make([]api.Vote, 3), api.Batch{Stamp: 4}, []byte{1}, []api.Hash{}
	if got := f.Give(1, m, 100); got != nil {
		t.Errorf("%+v", got)
	}
	isFetcher(t, "with other fields", f, takenState(data, 1))
}

// The last slot of the greatest configuration.
func TestP14_7LastSlot(t *testing.T) {
	f, err := xfer.NewFetcher(wide(), 3)
	if err != nil {
		t.Fatal(err)
	}
	data := bytesOf(0, 1500)
	f.Aim(0, 1<<40-1, 0, 0)
	silent(t, "past the last", f, func() []api.Send { return f.Give(0, give(1<<40+1, data, 0), 1) })
	asks(t, "the last", f.Give(6, give(1<<40, data, 0), 2), 6, 1<<40, 1)
}
