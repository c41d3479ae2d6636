package xfer_test

import (
	"bytes"
	"math/big"
	"testing"

	"quorum/api"
	"quorum/xfer"
)

// second is a plainer fetcher: it has no stands, looks at all conditions in the chapter's order, sums with exact numbers, and climbs from a chunk to the root by itself.
type second struct {
	c    api.Config
	self int
	st   api.FetcherState
}

func (s *second) peer(src api.Addr) bool {
	for _, p := range peers(2*s.c.F+1, s.self) {
		if p == src {
			return true
		}
	}
	return false
}

func (s *second) ask(now uint64, from int) []api.Send {
	s.st.From, s.st.Last = from, now
	if s.complete() {
		return nil
	}
	return sent(api.Addr(from), want(s.st.Goal, uint64(len(s.st.Chunks))))
}

func (s *second) complete() bool {
	return s.st.Goal != 0 && s.st.Count >= 1 && len(s.st.Chunks) == int(s.st.Count)
}

func (s *second) aim(src api.Addr, slot, have, now uint64) []api.Send {
	if !s.peer(src) || slot > s.c.MaxSlot || slot <= have || slot <= s.st.Goal {
		return nil
	}
	s.st = api.FetcherState{Goal: slot}
	return s.ask(now, int(src))
}

// climb leads a chunk's sum up its path in a row of n; false, if the path has another length.
func climb(sum api.Hash, n, i int, path []api.Hash) (api.Hash, bool) {
	var right []bool // on which side of each pair the way lies, from the top down
	for n > 1 {
		k := half(n)
		right = append(right, i >= k)
		if i >= k {
			i, n = i-k, n-k
		} else {
			n = k
		}
	}
	if len(right) != len(path) {
		return sum, false
	}
	for at, beside := range path {
		if right[len(right)-1-at] {
			sum = pair(beside, sum)
		} else {
			sum = pair(sum, beside)
		}
	}
	return sum, true
}

func (s *second) formed(m api.Msg) bool {
	if m.Kind != api.KGive || m.Slot > s.c.MaxSlot || m.Count < 1 || m.Count > 40 || m.Index >= m.Count || len(m.Data) < 1 || len(m.Data) > 1024 {
		return false
	}
	if m.Index+1 < m.Count && len(m.Data) != 1024 || m.Index == 39 && len(m.Data) > 64 {
		return false
	}
	top, ok := climb(leaf(m.Data), int(m.Count), int(m.Index), m.Path)
	return ok && top == m.Root
}

func (s *second) give(src api.Addr, m api.Msg, now uint64) []api.Send {
	if s.st.Goal == 0 || !s.peer(src) || !s.formed(m) {
		return nil
	}
	switch n := len(s.st.Chunks); {
	case m.Slot > s.st.Goal && m.Index == 0:
		s.st = api.FetcherState{Goal: m.Slot, Count: m.Count, Root: m.Root, Chunks: [][]byte{bytes.Clone(m.Data)}}
	case m.Slot == s.st.Goal && int(m.Index) == n && (n == 0 || m.Count == s.st.Count && m.Root == s.st.Root):
		s.st.Count, s.st.Root = m.Count, m.Root
		s.st.Chunks = append(append([][]byte(nil), s.st.Chunks...), bytes.Clone(m.Data))
	default:
		return nil
	}
	return s.ask(now, int(src))
}

func (s *second) tick(now uint64) []api.Send {
	due := new(big.Int).SetUint64(s.st.Last)
	due.Add(due, new(big.Int).SetUint64(2*s.c.Beat))
	if s.st.Goal == 0 || s.complete() || new(big.Int).SetUint64(now).Cmp(due) < 0 {
		return nil
	}
	from := s.st.From
	for {
		from++
		if from == 2*s.c.F+1 {
			from = 0
		}
		if from != s.self {
			return s.ask(now, from)
		}
	}
}

func (s *second) drop(have uint64) {
	if s.st.Goal <= have {
		s.st = api.FetcherState{}
	}
}

// library is a few snapshots for each slot, cut up: the first of a slot is the one that most messages are of.
type library map[uint64][][][]byte

func newLibrary(d *dice, slots ...uint64) library {
	l := library{}
	for _, slot := range slots {
		n := one(d, 1, 1+d.below(1024), 1024, 1025, 1+d.below(5000), 2048, 1+d.below(9000), 39936+d.below(65))
		l[slot] = [][][]byte{cut(bytesOf(slot, n)), cut(bytesOf(slot+1, n)), cut(bytesOf(slot, max(n/2, 1)))}
	}
	return l
}

// message is mostly the chunk that the fetch waits for, else another one, and now and then one that is spoilt.
func (d *dice) message(l library, slots []uint64, st api.FetcherState) api.Msg {
	slot, next := st.Goal, len(st.Chunks)
	if l[slot] == nil || d.below(8) == 0 {
		slot = one(d, slots...)
	}
	chunks := l[slot][0]
	if d.below(12) == 0 {
		chunks = one(d, l[slot]...)
	}
	i := min(next, len(chunks)-1)
	if d.below(5) == 0 {
		i = one(d, 0, d.below(len(chunks)), min(next+1, len(chunks)-1))
	}
	m := part(slot, chunks, i)
	if d.below(4) == 0 {
		d.spoil(&m)
	}
	return m
}

// spoil changes one thing, which may leave the message well formed.
func (d *dice) spoil(m *api.Msg) {
	switch d.below(11) {
	case 0:
		m.Kind = api.Kind(d.below(13))
	case 1:
		m.Slot = one(d, 0, m.Slot-1, m.Slot+1, 1<<40+1, most)
	case 2:
		m.Count = one(d, 0, m.Count-1, m.Count+1, m.Count+2, 40, 41, most)
	case 3:
		m.Index = one(d, 0, m.Index-1, m.Index+1, m.Count, most)
	case 4:
		m.Data[d.below(len(m.Data))] ^= 1 << d.below(8)
	case 5:
		m.Data = m.Data[:d.below(len(m.Data))]
	case 6:
		m.Data = append(m.Data, make([]byte, 1+d.below(3))...)
	case 7:
		m.Root[d.below(32)] ^= 1 << d.below(8)
	case 8:
		m.Path = append(m.Path, api.Hash{})
	case 9:
		if len(m.Path) > 0 {
			m.Path = m.Path[:len(m.Path)-1]
		}
	case 10:
		if len(m.Path) > 0 {
			m.Path[d.below(len(m.Path))][d.below(32)] ^= 1 << d.below(8)
		}
	}
}

// counts says how often each thing happened in the runs.
type counts map[string]int

func (c counts) note(what string, yes bool) {
	if yes {
		c[what]++
	} else {
		c["no "+what]++
	}
}

// play does one thing to both, and wants the same answer.
func play(t *testing.T, d *dice, f *xfer.Fetcher, s *second, l library, slots []uint64, now uint64, happened counts) {
	t.Helper()
	n := 2*s.c.F + 1
	src := one(d, api.Addr(d.below(n)), api.Addr(d.below(n)), api.Addr(d.below(n)), one(d, strangers(n, s.self)...))
	said := func(what string, got, want []api.Send, before api.FetcherState) {
		t.Helper()
		if !same(got, want) {
			t.Fatalf("%s: %+v, want %+v", what, got, want)
		}
		happened.note(what, !same(before, s.st))
	}
	was := s.st
	switch d.below(12) {
	case 0:
		slot := one(d, s.st.Goal, s.st.Goal+1, one(d, slots...), one(d, slots...), s.c.MaxSlot+1, 0)
		have := one(d, 0, 0, slot-1, slot, s.st.Goal)
		said("aim", f.Aim(src, slot, have, now), s.aim(src, slot, have, now), was)
	case 1, 2:
		said("tick", f.Tick(now), s.tick(now), was)
	case 3:
		if d.below(6) == 0 {
			have := one(d, 0, s.st.Goal-1, s.st.Goal, s.st.Goal+1, most)
			f.Drop(have)
			s.drop(have)
			happened.note("drop", !same(was, s.st))
		}
	default:
		m := d.message(l, slots, s.st)
		said("give", f.Give(src, m, now), s.give(src, m, now), was)
		happened.note("later", was.Goal > 0 && s.st.Goal > was.Goal)
		happened.note("complete", !same(was, s.st) && s.complete())
	}
}

// The fetcher does what the second one does, in long runs of anything.
func TestSecond(t *testing.T) {
	happened := counts{}
	for shape, c := range []api.Config{small(), withF(2), withF(3), narrow(), wide(), withBeat(1), withBeat(1000)} {
		for run := range 12 {
			d := &dice{uint64(1000*shape + run)}
			slots := []uint64{1, 2, 8, 12, 50, 99, 100}
			if c.MaxSlot == 1<<40 {
				slots = append(slots, 1<<40-1, 1<<40)
			}
			if c.MaxSlot == 1 {
				slots = slots[:2]
			}
			l := newLibrary(d, slots...)
			self := d.below(2*c.F + 1)
			f, s := fetcherOf(t, c, self), &second{c: c, self: self}
			now := one(d, 0, uint64(d.below(1000)), 1<<40-300, most-300)
			for n := range 300 {
				at := now
				switch d.below(25) {
				case 0:
					at = one(d, 0, now/2, 1<<40, most)
				case 1:
					at = s.st.Last + 2*c.Beat - uint64(d.below(2))
				}
				play(t, d, f, s, l, slots, at, happened)
				isFetcher(t, "the two", f, s.st)
				if t.Failed() {
					t.Fatalf("configuration %d, run %d, step %d", shape, run, n)
				}
				now += uint64(d.below(int(c.Beat) + 1))
			}
		}
	}
	for _, what := range []string{"aim", "no aim", "tick", "no tick", "drop", "no drop", "give", "no give", "later", "complete"} {
		if happened[what] < 50 {
			t.Errorf("%s: only %d times", what, happened[what])
		}
	}
}

// The supplier does what the chapter says of it, in long runs: here each snapshot is kept whole and cut up anew for each want.
func TestSecondSupplier(t *testing.T) {
	given, puts := 0, 0
	for run := range 60 {
		d := &dice{uint64(run)}
		c := withF(1 + run%3)
		n := 2*c.F + 1
		self := d.below(n)
		s := supplierOf(t, c, self)
		var slot uint64
		var data []byte
		for step := range 80 {
			if d.below(10) == 0 {
				at := one(d, slot, slot+1, slot+uint64(d.below(9)), slot-1, uint64(d.below(110)))
				b := bytesOf(uint64(step), one(d, 0, 1, 1024, 1+d.below(6000), 40000, 40001))
				ok := at >= 1 && at <= 100 && at >= slot && len(b) >= 1 && len(b) <= 40000
				if (s.Put(at, b) == nil) != ok {
					t.Fatalf("Put(%d, %d bytes) behind %d", at, len(b), slot)
				}
				if ok {
					slot, data = at, b
					puts++
				}
				continue
			}
			src := one(d, api.Addr(d.below(n)), api.Addr(d.below(n)), one(d, strangers(n, self)...))
			m := want(one(d, slot, slot, slot+1, slot-1, uint64(d.below(110))), one(d, uint64(d.below(42)), uint64(d.below(3)), most))
			var back []api.Send
			if count := uint64(len(cut(data))); slot > 0 && src < api.Addr(n) && src != api.Addr(self) && m.Slot <= slot {
				if m.Slot < slot {
					back = sent(src, give(slot, data, 0))
				} else if m.Index < count {
					back = sent(src, give(slot, data, int(m.Index)))
				}
			}
			if got := s.Want(src, m); !same(got, back) {
				t.Fatalf("Want(%d, %d %d) of slot %d: %d sends, want %d", src, m.Slot, m.Index, slot, len(got), len(back))
			}
			given += len(back)
		}
	}
	if given < 300 || puts < 100 {
		t.Errorf("%d given, %d put", given, puts)
	}
}
