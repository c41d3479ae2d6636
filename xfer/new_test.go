package xfer_test

import (
	"math"
	"testing"

	"quorum/api"
	"quorum/xfer"
)

// refuses wants both calls to refuse alike.
func refuses(t *testing.T, what string, c api.Config, self int, why error, at int) {
	t.Helper()
	s, err := xfer.NewSupplier(c, self)
	isFault(t, what+", supplier", err, why, at)
	f, err := xfer.NewFetcher(c, self)
	isFault(t, what+", fetcher", err, why, at)
	if s != nil || f != nil {
		t.Errorf("%s: something beside a refusal", what)
	}
}

// Every replica of every size of group gets a supplier without a snapshot and a fetcher without a goal.
func TestP14_1New(t *testing.T) {
	for _, c := range []api.Config{small(), narrow(), wide(), withF(2), withF(3)} {
		for self := range 2*c.F + 1 {
			s, f := supplierOf(t, c, self), fetcherOf(t, c, self)
			if s.State() != (api.SupplierState{}) {
				t.Errorf("%d: %+v", self, s.State())
			}
			isFetcher(t, "a new one", f, api.FetcherState{})
			for src := range api.Addr(2*c.F + 2) {
				if got := s.Want(src, want(0, 0)); got != nil {
					t.Errorf("%d gives %+v", self, got)
				}
				silent(t, "Give", f, func() []api.Send { return f.Give(src, give(1, bytesOf(0, 9), 0), 5) })
				silent(t, "Tick", f, func() []api.Send { return f.Tick(most) })
			}
		}
	}
}

// Ballot's fault is behind at 0 with its own place, field by field, also where self is wrong too.
func TestP14_1Config(t *testing.T) {
	for at, spoil := range []func(*api.Config){
		func(c *api.Config) { c.F = 4 },
		func(c *api.Config) { c.MaxBatch = 0 },
		func(c *api.Config) { c.Delay = 1001 },
		func(c *api.Config) { c.Window = 9 },
		func(c *api.Config) { c.Every = 9 },
		func(c *api.Config) { c.Beat = 0 },
		func(c *api.Config) { c.Epoch = 0 },
		func(c *api.Config) { c.EpochMax = 9 },
		func(c *api.Config) { c.MaxNum = 0 },
		func(c *api.Config) { c.MaxSlot = 1<<40 + 1 },
	} {
		c := small()
		spoil(&c)
		for _, self := range []int{0, -1, 3, 99} {
			refuses(t, "a configuration", c, self, &api.Fault{Layer: "ballot", At: at, Err: api.ErrBallotConfig}, 0)
		}
	}
	refuses(t, "none", api.Config{}, 0, &api.Fault{Layer: "ballot", At: 0, Err: api.ErrBallotConfig}, 0)
}

func TestP14_1Node(t *testing.T) {
	for f := 1; f <= api.MaxF; f++ {
		for _, self := range []int{-1, -2, 2*f + 1, 2*f + 2, 31, 256, 1 << 32, math.MinInt, math.MaxInt} {
			refuses(t, "nobody", withF(f), self, api.ErrBallotNode, 1)
		}
	}
}
