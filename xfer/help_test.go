package xfer_test

import (
	"bytes"
	"crypto/sha256"
	"errors"
	"fmt"
	"reflect"
	"testing"

	"quorum/api"
	"quorum/xfer"
)

const most = 1<<64 - 1

// small is the configuration of the chapter's examples.
func small() api.Config {
	return api.Config{F: 1, MaxBatch: 4, Delay: 0, Window: 8, Every: 4, Beat: 3, Epoch: 20, EpochMax: 80, MaxNum: 1000, MaxSlot: 100}
}

// narrow is a configuration with every field at its least.
func narrow() api.Config {
	return api.Config{F: 1, MaxBatch: 1, Delay: 0, Window: 1, Every: 1, Beat: 1, Epoch: 1, EpochMax: 1, MaxNum: 1, MaxSlot: 1}
}

// wide is a configuration with every field at its greatest.
func wide() api.Config {
	return api.Config{F: 3, MaxBatch: 8, Delay: 1000, Window: 8, Every: 8, Beat: 1000, Epoch: 10000, EpochMax: 100000, MaxNum: 1 << 40, MaxSlot: 1 << 40}
}

// withF is the small configuration with so many faults borne.
func withF(f int) api.Config {
	c := small()
	c.F = f
	return c
}

// withBeat is the small configuration with so many ticks between heartbeats.
func withBeat(beat uint64) api.Config {
	c := small()
	c.Beat = beat
	return c
}

// bytesOf gives n bytes, other ones for each seed.
func bytesOf(seed uint64, n int) []byte {
	b := make([]byte, n)
	for i := range b {
		b[i] = byte(uint64(i)*7 + uint64(i/256)*13 + uint64(i/1024)*31 + seed*101)
	}
	return b
}

// sizes are numbers of bytes around all that a snapshot's chunks turn at.
func sizes() []int {
	return []int{1, 2, 1023, 1024, 1025, 2047, 2048, 2049, 2500, 3072, 3073, 4096, 4097, 8192, 8193, 16385, 32768, 32769, 39935, 39936, 39937, 39999, 40000}
}

// cut gives the chunks of a snapshot.
func cut(data []byte) [][]byte {
	var chunks [][]byte
	for len(data) > 1024 {
		chunks, data = append(chunks, data[:1024]), data[1024:]
	}
	return append(chunks, data)
}

func leaf(chunk []byte) api.Hash { return sha256.Sum256(append([]byte{0}, chunk...)) }

func pair(a, b api.Hash) api.Hash {
	return sha256.Sum256(append(append([]byte{1}, a[:]...), b[:]...))
}

// half is the greatest power of two below n.
func half(n int) int {
	k := 1
	for 2*k < n {
		k *= 2
	}
	return k
}

// rootOf is the root of these chunks, whatever their lengths are.
func rootOf(chunks [][]byte) api.Hash {
	if len(chunks) == 1 {
		return leaf(chunks[0])
	}
	k := half(len(chunks))
	return pair(rootOf(chunks[:k]), rootOf(chunks[k:]))
}

// pathOf is the path of one of these chunks.
func pathOf(chunks [][]byte, i int) []api.Hash {
	if len(chunks) == 1 {
		return nil
	}
	k := half(len(chunks))
	if i < k {
		return append(pathOf(chunks[:k], i), rootOf(chunks[k:]))
	}
	return append(pathOf(chunks[k:], i-k), rootOf(chunks[:k]))
}

// part is the message with one of these chunks, whatever their lengths are.
func part(slot uint64, chunks [][]byte, i int) api.Msg {
	return api.Msg{Kind: api.KGive, Slot: slot, Index: uint64(i), Count: uint64(len(chunks)), Root: rootOf(chunks), Data: append([]byte(nil), chunks[i]...), Path: pathOf(chunks, i)}
}

// give is the message with a chunk of a snapshot.
func give(slot uint64, data []byte, i int) api.Msg { return part(slot, cut(data), i) }

func want(slot, index uint64) api.Msg { return api.Msg{Kind: api.KWant, Slot: slot, Index: index} }

// sent is one message to an address.
func sent(to api.Addr, m api.Msg) []api.Send { return []api.Send{{To: to, Msg: m}} }

// same is equality to the last bit: nil is not an empty list.
func same(a, b any) bool { return reflect.DeepEqual(a, b) }

func supplierOf(t testing.TB, c api.Config, self int) *xfer.Supplier {
	t.Helper()
	s, err := xfer.NewSupplier(c, self)
	if s == nil || err != nil {
		t.Fatalf("NewSupplier(%+v, %d): %v", c, self, err)
	}
	return s
}

func fetcherOf(t testing.TB, c api.Config, self int) *xfer.Fetcher {
	t.Helper()
	f, err := xfer.NewFetcher(c, self)
	if f == nil || err != nil {
		t.Fatalf("NewFetcher(%+v, %d): %v", c, self, err)
	}
	return f
}

func put(t testing.TB, s *xfer.Supplier, slot uint64, data []byte) {
	t.Helper()
	if err := s.Put(slot, data); err != nil {
		t.Fatalf("Put(%d, %d bytes): %v", slot, len(data), err)
	}
}

// having is a supplier of the small configuration with a snapshot.
func having(t testing.TB, self int, slot uint64, data []byte) *xfer.Supplier {
	t.Helper()
	s := supplierOf(t, small(), self)
	put(t, s, slot, data)
	return s
}

// isSupplier wants that snapshot, and that all its chunks can be had.
func isSupplier(t testing.TB, what string, s *xfer.Supplier, slot uint64, data []byte) {
	t.Helper()
	chunks := cut(data)
	if got, want := s.State(), (api.SupplierState{Slot: slot, Count: uint64(len(chunks)), Root: rootOf(chunks)}); got != want {
		t.Errorf("%s: %+v, want %+v", what, got, want)
	}
	for i := range chunks {
		if got := s.Want(0, want(slot, uint64(i))); !same(got, sent(0, part(slot, chunks, i))) {
			t.Errorf("%s: chunk %d of %d is another", what, i, len(chunks))
		}
	}
}

// aimed is replica 0's fetcher of the small configuration, with the goal 8 of replica 1 since 100.
func aimed(t testing.TB) *xfer.Fetcher {
	t.Helper()
	f := fetcherOf(t, small(), 0)
	if got := f.Aim(1, 8, 5, 100); !same(got, sent(1, want(8, 0))) {
		t.Fatalf("Aim: %+v", got)
	}
	return f
}

// taken is aimed with the first n chunks of a snapshot, that of slot 8.
func taken(t testing.TB, data []byte, n int) *xfer.Fetcher {
	t.Helper()
	f := aimed(t)
	for i := range n {
		f.Give(1, give(8, data, i), 100)
	}
	if n > 0 {
		isFetcher(t, "taken", f, takenState(data, n))
	}
	return f
}

// takenState is the state of taken.
func takenState(data []byte, n int) api.FetcherState {
	st := api.FetcherState{Goal: 8, From: 1, Last: 100}
	if n > 0 {
		chunks := cut(data)
		st.Count, st.Root, st.Chunks = uint64(len(chunks)), rootOf(chunks), chunks[:n]
	}
	return st
}

// isFetcher wants all of that state, and that Ready tells what it should with it.
func isFetcher(t testing.TB, what string, f *xfer.Fetcher, want api.FetcherState) {
	t.Helper()
	if got := f.State(); !same(got, want) {
		t.Errorf("%s: %s, want %s", what, brief(got), brief(want))
	}
	slot, data, ok := f.Ready()
	if want.Count == 0 || uint64(len(want.Chunks)) < want.Count {
		if slot != 0 || data != nil || ok {
			t.Errorf("%s: ready with slot %d, %d bytes, %v", what, slot, len(data), ok)
		}
		return
	}
	if slot != want.Goal || !bytes.Equal(data, bytes.Join(want.Chunks, nil)) || !ok {
		t.Errorf("%s: not ready: slot %d, %d bytes, %v", what, slot, len(data), ok)
	}
}

// brief tells a state without its bytes.
func brief(st api.FetcherState) string {
	text := fmt.Sprintf("goal %d from %d count %d root %x last %d, chunks", st.Goal, st.From, st.Count, st.Root[:4], st.Last)
	for _, c := range st.Chunks {
		text += fmt.Sprintf(" %d", len(c))
	}
	return text
}

// silent wants a call to send nothing and to change nothing.
func silent(t testing.TB, what string, f *xfer.Fetcher, call func() []api.Send) {
	t.Helper()
	was := f.State()
	if got := call(); got != nil {
		t.Errorf("%s: %+v", what, got)
	}
	isFetcher(t, what, f, was)
}

// asks wants one want of a chunk.
func asks(t testing.TB, what string, got []api.Send, to api.Addr, slot, index uint64) {
	t.Helper()
	if !same(got, sent(to, want(slot, index))) {
		t.Errorf("%s: %+v, want chunk %d of slot %d to be asked of %d", what, got, index, slot, to)
	}
}

// isFault wants a fault of this layer with just that behind it, and that place.
func isFault(t testing.TB, what string, err error, why error, at int) {
	t.Helper()
	f, ok := err.(*api.Fault)
	if !ok || f == nil {
		t.Errorf("%s: %v is no fault, want %v at %d", what, err, why, at)
		return
	}
	if f.Layer != "xfer" || f.At != at || !same(f.Err, why) || !errors.Is(err, f.Err) {
		t.Errorf("%s: refused with %v, want %v at %d", what, err, why, at)
	}
}

// strangers are addresses of no other replica, where there are n and this is one of them.
func strangers(n, self int) []api.Addr {
	return []api.Addr{api.Addr(self), api.Addr(n), api.Addr(n + 1), 7, 100, 255, 256, 300, 1 << 32, 1<<32 + 1, 1<<32 + 2, 1 << 63, 1<<63 + 1, most - 1, most}
}

// peers are the other replicas.
func peers(n, self int) []api.Addr {
	var all []api.Addr
	for k := range n {
		if k != self {
			all = append(all, api.Addr(k))
		}
	}
	return all
}

// dice gives numbers that look like any, the same ones in every run.
type dice struct{ state uint64 }

func (d *dice) next() uint64 {
	d.state = d.state*6364136223846793005 + 1442695040888963407
	return d.state ^ d.state>>29
}

// below gives a number from 0 to n-1.
func (d *dice) below(n int) int { return int(d.next() >> 3 % uint64(n)) }

func one[E any](d *dice, list ...E) E { return list[d.below(len(list))] }
