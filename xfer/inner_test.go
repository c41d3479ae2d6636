package xfer

import (
	"testing"

	"quorum/api"
	"quorum/snap"
)

// TestP14_7Verdicts looks inside the package: a chunk of a wrong form and one that leads to another root are both let go, so from outside they can't be told apart.
func TestP14_7Verdicts(t *testing.T) {
	data := make([]byte, 2500)
	for i := range data {
		data[i] = byte(i / 100)
	}
	for i := range 3 {
		chunk, _ := snap.Chunk(data, i)
		path, _ := snap.Path(data, i)
		for _, c := range []struct {
			what   string
			change func(*api.Msg)
			want   verdict
		}{
			{"nothing", func(*api.Msg) {}, belongs},
			{"a byte", func(m *api.Msg) { m.Data[0]++ }, astray},
			{"the path", func(m *api.Msg) { m.Path[0][0]++ }, astray},
			{"the root", func(m *api.Msg) { m.Root[0]++ }, astray},
			{"a byte less of the last", func(m *api.Msg) {
				if i == 2 {
					m.Data = m.Data[1:]
				} else {
					m.Root[1]++
				}
			}, astray},
			{"too many bytes", func(m *api.Msg) { m.Data = make([]byte, 1025) }, misshapen},
			{"far too many bytes", func(m *api.Msg) { m.Data = make([]byte, 50000) }, misshapen},
			{"a path less", func(m *api.Msg) { m.Path = m.Path[1:] }, misshapen},
			{"a path more", func(m *api.Msg) { m.Path = append(m.Path, api.Hash{}) }, misshapen},
			{"no path and no root", func(m *api.Msg) { m.Path, m.Root = nil, api.Hash{} }, misshapen},
		} {
			m := api.Msg{Kind: api.KGive, Slot: 8, Index: uint64(i), Count: 3, Root: snap.Root(data), Data: twin(chunk), Path: append([]api.Hash(nil), path...)}
			c.change(&m)
			if got := judge(m); got != c.want {
				t.Errorf("chunk %d, %s: %d, want %d", i, c.what, got, c.want)
			}
			if wellFormed(m, 8) != (c.want == belongs) {
				t.Errorf("chunk %d, %s: well formed or not", i, c.what)
			}
		}
	}
}
