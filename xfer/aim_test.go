package xfer_test

import (
	"testing"

	"quorum/api"
	"quorum/xfer"
)

// standing is a fetcher at each place where a fetch may stand: without a goal, and with the goal 8 and none, some or all of its chunks.
func standing(t *testing.T) map[string]*xfer.Fetcher {
	data := bytesOf(0, 2500)
	return map[string]*xfer.Fetcher{
		"idle":     fetcherOf(t, small(), 0),
		"waiting":  aimed(t),
		"taking 1": taken(t, data, 1),
		"taking 2": taken(t, data, 2),
		"complete": taken(t, data, 3),
	}
}

// Each reason for nothing alone, wherever the fetch stands.
func TestP14_6Nothing(t *testing.T) {
	for what, f := range standing(t) {
		for _, src := range strangers(3, 0) {
			silent(t, what+", no peer", f, func() []api.Send { return f.Aim(src, 50, 5, 200) })
		}
		for _, slot := range []uint64{101, 102, 1 << 40, 1 << 63, most} {
			silent(t, what+", past the last slot", f, func() []api.Send { return f.Aim(1, slot, 5, 200) })
		}
		for _, slot := range []uint64{0, 1, 7, 8, 9, 50, 100} {
			for _, have := range []uint64{slot, slot + 1, 101, most} {
				silent(t, what+", not above what it has", f, func() []api.Send { return f.Aim(1, slot, have, 200) })
			}
		}
		goal := f.State().Goal
		for _, slot := range []uint64{0, 1, 7, 8} {
			if slot <= goal {
				silent(t, what+", not above its goal", f, func() []api.Send { return f.Aim(2, slot, 0, 200) })
			}
		}
	}
}

// A new goal lets go of all of the old one, wherever the fetch stands.
func TestP14_6Goal(t *testing.T) {
	for _, slot := range []uint64{9, 10, 99, 100} {
		for _, have := range []uint64{0, 5, 8, slot - 1} {
			for _, now := range []uint64{0, 99, 100, 101, 1 << 40, 1<<40 + 1, most} {
				for what, f := range standing(t) {
					asks(t, what, f.Aim(2, slot, have, now), 2, slot, 0)
					isFetcher(t, what, f, api.FetcherState{Goal: slot, From: 2, Last: now})
				}
			}
		}
	}
	f := fetcherOf(t, small(), 0)
	asks(t, "the first slot", f.Aim(1, 1, 0, 0), 1, 1, 0)
	isFetcher(t, "the first slot", f, api.FetcherState{Goal: 1, From: 1})
	f = fetcherOf(t, wide(), 6)
	asks(t, "the last slot", f.Aim(0, 1<<40, 1<<40-1, 5), 0, 1<<40, 0)
	isFetcher(t, "the last slot", f, api.FetcherState{Goal: 1 << 40, Last: 5})
	silent(t, "behind the last slot", f, func() []api.Send { return f.Aim(1, 1<<40+1, 1<<40, 6) })
}

// Whoever tells it: any peer in a group of any size.
func TestP14_6Peers(t *testing.T) {
	for bears := 1; bears <= api.MaxF; bears++ {
		n := 2*bears + 1
		for self := range n {
			f := fetcherOf(t, withF(bears), self)
			for _, src := range strangers(n, self) {
				silent(t, "no peer", f, func() []api.Send { return f.Aim(src, 50, 5, 200) })
			}
			for i, src := range peers(n, self) {
				slot := uint64(10 + i)
				asks(t, "a peer", f.Aim(src, slot, 5, 200), src, slot, 0)
				isFetcher(t, "a peer", f, api.FetcherState{Goal: slot, From: int(src), Last: 200})
			}
		}
	}
}

// Behind 2F comes 0, and self is passed over.
func TestP14_8Turns(t *testing.T) {
	for bears := 1; bears <= api.MaxF; bears++ {
		n := 2*bears + 1
		for self := range n {
			for _, src := range peers(n, self) {
				f := fetcherOf(t, withF(bears), self)
				f.Aim(src, 8, 5, 100)
				f.Give(src, give(8, bytesOf(0, 1500), 0), 100)
				st := f.State()
				for turn := range uint64(3 * n) {
					st.Last = 106 + 6*turn
					st.From++
					for st.From == self || st.From == n {
						st.From = (st.From + 1) % (n + 1)
					}
					asks(t, "Tick", f.Tick(st.Last), api.Addr(st.From), 8, 1)
					isFetcher(t, "Tick", f, st)
				}
			}
		}
	}
}

// It asks for the chunk that is next, and not at all without a goal or with all chunks.
func TestP14_8Stands(t *testing.T) {
	for what, f := range standing(t) {
		st := f.State()
		index := uint64(len(st.Chunks))
		if what == "idle" || what == "complete" {
			for _, now := range []uint64{0, 100, 106, 1000, 1 << 40, most} {
				silent(t, what, f, func() []api.Send { return f.Tick(now) })
			}
			continue
		}
		asks(t, what, f.Tick(106), 2, 8, index)
		st.From, st.Last = 2, 106
		isFetcher(t, what, f, st)
		asks(t, what, f.Tick(most), 1, 8, index)
		st.From, st.Last = 1, most
		isFetcher(t, what, f, st)
	}
}

// Just at Last + 2 Beat, and with a sum that does not go into 64 bits never.
func TestP14_8Late(t *testing.T) {
	for _, beat := range []uint64{1, 2, 3, 500, 1000} {
		for _, last := range []uint64{0, 1, 100, 1<<40 - 1, 1 << 40, 1 << 63, most - 2*beat - 1, most - 2*beat} {
			f := fetcherOf(t, withBeat(beat), 0)
			f.Aim(1, 8, 5, last)
			for _, now := range []uint64{0, last / 2, last, last + 1, last + 2*beat - 1} {
				if now < last+2*beat {
					silent(t, "too early", f, func() []api.Send { return f.Tick(now) })
				}
			}
			asks(t, "late", f.Tick(last+2*beat), 2, 8, 0)
			isFetcher(t, "late", f, api.FetcherState{Goal: 8, From: 2, Last: last + 2*beat})
		}
		for _, last := range []uint64{most - 2*beat + 1, most - beat, most - 1, most} {
			f := fetcherOf(t, withBeat(beat), 0)
			f.Aim(1, 8, 5, last)
			for _, now := range []uint64{0, 1, beat, 2 * beat, 2*beat + 1, last + 2*beat, 1 << 40, last - 1, last, most} {
				silent(t, "never", f, func() []api.Send { return f.Tick(now) })
			}
		}
	}
}

// Hearing sets the time on, as asking does.
func TestP14_8Heard(t *testing.T) {
	data := bytesOf(0, 5000)
	f := aimed(t)
	for i := range 4 {
		now := 105 + 5*uint64(i)
		silent(t, "asked or heard of late", f, func() []api.Send { return f.Tick(now) })
		asks(t, "a chunk", f.Give(1, give(8, data, i), now), 1, 8, uint64(i+1))
	}
	silent(t, "a chunk that is let go sets no time", f, func() []api.Send { return f.Give(2, give(8, data, 1), 124) })
	silent(t, "heard of at 120", f, func() []api.Send { return f.Tick(125) })
	asks(t, "late", f.Tick(126), 2, 8, 4)
	silent(t, "asked at 126", f, func() []api.Send { return f.Tick(131) })
	asks(t, "late again", f.Tick(132), 1, 8, 4)
}

// Ready is asked by isFetcher behind every call here; that it changes nothing, and may be asked again:
func TestP14_9Ready(t *testing.T) {
	for _, n := range sizes() {
		data := bytesOf(9, n)
		count := len(cut(data))
		f := taken(t, data, count-1)
		if slot, got, ok := f.Ready(); slot != 0 || got != nil || ok {
			t.Errorf("%d bytes: ready too early", n)
		}
		f = taken(t, data, count)
		for range 3 {
			if slot, got, ok := f.Ready(); slot != 8 || !same(got, data) || !ok {
				t.Errorf("%d bytes: slot %d, %d bytes, %v", n, slot, len(got), ok)
			}
			isFetcher(t, "behind Ready", f, takenState(data, count))
		}
	}
}

// Drop, wherever the fetch stands.
func TestP14_10Drop(t *testing.T) {
	data := bytesOf(0, 2500)
	for _, have := range []uint64{0, 1, 7} {
		for what, f := range standing(t) {
			was := f.State()
			f.Drop(have)
			isFetcher(t, what+" stays", f, was)
		}
	}
	for _, have := range []uint64{8, 9, 100, 101, most} {
		for what, f := range standing(t) {
			f.Drop(have)
			isFetcher(t, what+" is dropped", f, api.FetcherState{})
			silent(t, what+", Give", f, func() []api.Send { return f.Give(1, give(8, data, 0), 101) })
			silent(t, what+", a later one", f, func() []api.Send { return f.Give(1, give(50, data, 0), 101) })
			silent(t, what+", Tick", f, func() []api.Send { return f.Tick(900) })
			asks(t, what+", Aim", f.Aim(2, 3, 0, 901), 2, 3, 0)
			isFetcher(t, what+", Aim", f, api.FetcherState{Goal: 3, From: 2, Last: 901})
			asks(t, what+", Give behind Aim", f.Give(1, give(3, data, 0), 902), 1, 3, 1)
		}
	}
}
