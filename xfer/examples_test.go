package xfer_test

import (
	"testing"

	"quorum/api"
	"quorum/xfer"
)

// The chapter's examples 1 to 3, one after the other.
func TestExamples(t *testing.T) {
	data := bytesOf(0, 2500)
	s := having(t, 1, 8, data)
	f := fetcherOf(t, small(), 0)

	asks(t, "1: Aim", f.Aim(1, 8, 5, 100), 1, 8, 0)
	silent(t, "1: once more", f, func() []api.Send { return f.Aim(2, 8, 5, 101) })
	silent(t, "1: no peer", f, func() []api.Send { return f.Aim(0, 9, 5, 101) })

	first := s.Want(0, want(8, 0))
	if !same(first, sent(0, give(8, data, 0))) || first[0].Msg.Count != 3 || len(first[0].Msg.Path) != 2 {
		t.Errorf("2: %+v", first)
	}
	if got := s.Want(0, want(8, 3)); got != nil {
		t.Errorf("2: chunk 3: %+v", got)
	}
	if got := s.Want(0, want(4, 2)); !same(got, first) {
		t.Errorf("2: a lower slot: %+v", got)
	}
	if got := s.Want(0, want(9, 0)); got != nil {
		t.Errorf("2: a higher slot: %+v", got)
	}

	asks(t, "3: chunk 0", f.Give(1, give(8, data, 0), 102), 1, 8, 1)
	silent(t, "3: once more", f, func() []api.Send { return f.Give(1, give(8, data, 0), 102) })
	silent(t, "3: Tick(107)", f, func() []api.Send { return f.Tick(107) })
	asks(t, "3: Tick(108)", f.Tick(108), 2, 8, 1)
	if st := f.State(); st.From != 2 || st.Last != 108 {
		t.Errorf("3: %s", brief(st))
	}
	asks(t, "3: chunk 1", f.Give(2, give(8, data, 1), 109), 2, 8, 2)
	if got := f.Give(1, give(8, data, 2), 110); got != nil {
		t.Errorf("3: chunk 2: %+v", got)
	}
	st := takenState(data, 3)
	st.Last = 110
	isFetcher(t, "3: all", f, st)
	silent(t, "3: Tick(900)", f, func() []api.Send { return f.Tick(900) })
}

func TestExampleLater(t *testing.T) {
	data, later := bytesOf(0, 2500), bytesOf(1, 3000)
	f := taken(t, data, 1)
	silent(t, "4: chunk 1 ahead of 0", f, func() []api.Send { return f.Give(1, give(12, later, 1), 101) })
	asks(t, "4: slot 12", f.Give(1, give(12, later, 0), 102), 1, 12, 1)
	isFetcher(t, "4: slot 12", f, api.FetcherState{Goal: 12, From: 1, Count: 3, Root: rootOf(cut(later)), Chunks: cut(later)[:1], Last: 102})
}

func TestExampleSpoilt(t *testing.T) {
	data := bytesOf(0, 2500)
	f := taken(t, data, 1)
	m := give(8, data, 1)
	m.Data[len(m.Data)-1]++
	silent(t, "5: another byte", f, func() []api.Send { return f.Give(1, m, 101) })
	m = give(8, data, 1)
	m.Path = give(8, data, 0).Path
	silent(t, "5: another path", f, func() []api.Send { return f.Give(1, m, 101) })
	f.Drop(7)
	isFetcher(t, "5: Drop(7)", f, takenState(data, 1))
	f.Drop(8)
	isFetcher(t, "5: Drop(8)", f, api.FetcherState{})
}

// The README's lines on this package.
func TestReadme(t *testing.T) {
	data := bytesOf(3, 3000)
	s, err := xfer.NewSupplier(small(), 1)
	if err != nil || s.Put(8, data) != nil {
		t.Fatal(err)
	}
	f, err := xfer.NewFetcher(small(), 0)
	if err != nil {
		t.Fatal(err)
	}
	sends, rounds := f.Aim(1, 8, 5, 100), 0
	for len(sends) > 0 {
		chunk := s.Want(0, sends[0].Msg)
		sends = f.Give(1, chunk[0].Msg, 101)
		rounds++
	}
	if slot, got, ok := f.Ready(); slot != 8 || !same(got, data) || !ok || rounds != 3 {
		t.Errorf("slot %d, %d bytes, %v, %d rounds", slot, len(got), ok, rounds)
	}
}
