package election_test

import (
	"testing"

	"quorum/api"
)

func TestP13_3Wrong(t *testing.T) {
	e := made(t)
	for what, r := range badRequests() {
		stays(t, what, e, func() bool { return e.Request(r) })
	}
	asked(t, e, req(256, 1), req(1<<64-1, 1<<64-1, make([]byte, 700)...), req(257, 1<<64-1))
	for what, r := range badRequests() {
		stays(t, what, e, func() bool { return e.Request(r) })
	}
}

// Numbers of a client that waits: below, the same, above; in this and in prev. The command does not matter.
func TestP13_3Known(t *testing.T) {
	for _, rounds := range []uint64{0, 1} {
		e := made(t)
		asked(t, e, req(300, 5, 1), req(301, 7))
		for n := range rounds {
			e.Timeout(15 + 10*n)
		}
		for _, r := range []api.Request{req(300, 5, 1), req(300, 5, 2), req(300, 4), req(300, 1), req(301, 7), req(301, 6)} {
			stays(t, "a request that is known", e, func() bool { return e.Request(r) })
		}
		asked(t, e, req(300, 6), req(301, 1<<64-1), req(302, 4), req(299, 1))
		for _, r := range []api.Request{req(300, 6), req(300, 5, 1), req(301, 9), req(301, 1<<64-1), req(302, 4), req(302, 3), req(299, 1)} {
			stays(t, "a request that is known", e, func() bool { return e.Request(r) })
		}
		asked(t, e, req(300, 7), req(302, 5), req(299, 2))
	}
}

// A request is known also if what waits of its client is neither first nor last.
func TestP13_3KnownInTheMiddle(t *testing.T) {
	e := made(t)
	asked(t, e, req(300, 9), req(301, 9), req(302, 9))
	e.Timeout(15)
	asked(t, e, req(303, 9), req(304, 9), req(305, 9))
	for client := uint64(300); client < 306; client++ {
		for _, seq := range []uint64{1, 8, 9} {
			stays(t, "a request that is known", e, func() bool { return e.Request(req(client, seq)) })
		}
		asked(t, e, req(client, 10))
	}
}

func TestP13_3Order(t *testing.T) {
	e := made(t)
	first := list(req(305, 3, 1), req(300, 9), req(303, 1, 2, 3))
	second := list(req(302, 5), req(305, 4), req(301, 1, 9))
	asked(t, e, first...)
	isState(t, "an epoch", e, 0, api.ElectionState{View: bal(1, 0), Length: 10, EpochEnd: 15, This: first})
	e.Timeout(20)
	asked(t, e, second...)
	isState(t, "the next one", e, 0, api.ElectionState{View: bal(1, 0), Length: 10, EpochEnd: 30, Prev: first, This: second})
}

// This has room for 32, whatever is in prev; prev being full does not matter.
func TestP13_3Full(t *testing.T) {
	e := made(t)
	asked(t, e, many(300, 32)...)
	for _, r := range []api.Request{req(400, 1), req(300, 2), req(331, 9), req(300, 1)} {
		stays(t, "a request too many", e, func() bool { return e.Request(r) })
	}
	e.Timeout(15)
	asked(t, e, many(400, 32)...)
	for _, r := range []api.Request{req(500, 1), req(300, 2), req(400, 2)} {
		stays(t, "a request too many", e, func() bool { return e.Request(r) })
	}
	isState(t, "both full", e, 0, api.ElectionState{View: bal(1, 0), Length: 10, EpochEnd: 25, Prev: many(300, 32), This: many(400, 32)})
	e.Executed(ran(req(300, 1)))
	stays(t, "there is room in prev only", e, func() bool { return e.Request(req(500, 1)) })
	e.Executed(ran(req(410, 1)))
	asked(t, e, req(500, 1))
	stays(t, "full again", e, func() bool { return e.Request(req(501, 1)) })
}

// Of a client that waits in both lists several times: what is run, below and above.
func TestP13_4Numbers(t *testing.T) {
	fill := func() (prev, this []api.Request) {
		return list(req(300, 2), req(301, 1), req(300, 4), req(302, 9)), list(req(300, 6), req(302, 10), req(300, 8), req(303, 1))
	}
	for seq := range uint64(12) {
		e := made(t)
		prev, this := fill()
		asked(t, e, prev...)
		e.Timeout(15)
		asked(t, e, this...)
		e.Executed(ran(req(300, seq, 9, 9)))
		kept := func(reqs []api.Request) []api.Request {
			var left []api.Request
			for _, r := range reqs {
				if r.Client != 300 || r.Seq > seq {
					left = append(left, r)
				}
			}
			return left
		}
		isState(t, "what is left", e, 0, api.ElectionState{View: bal(1, 0), Length: 10, EpochEnd: 25, Prev: kept(prev), This: kept(this)})
	}
}

func TestP13_4Many(t *testing.T) {
	e := made(t)
	asked(t, e, req(300, 1), req(301, 5), req(300, 4), req(302, 1))
	e.Timeout(15)
	asked(t, e, req(301, 6), req(303, 1), req(304, 2))
	e.Executed(ran())
	e.Executed(api.Batch{Stamp: 7, Reqs: []api.Request{}})
	isState(t, "an empty batch", e, 0, api.ElectionState{View: bal(1, 0), Length: 10, EpochEnd: 25,
		Prev: list(req(300, 1), req(301, 5), req(300, 4), req(302, 1)), This: list(req(301, 6), req(303, 1), req(304, 2))})
	e.Executed(ran(req(301, 5), req(300, 3), req(303, 9), req(305, 1)))
	isState(t, "some", e, 0, api.ElectionState{View: bal(1, 0), Length: 10, EpochEnd: 25, Prev: list(req(300, 4), req(302, 1)), This: list(req(301, 6), req(304, 2))})
	e.Executed(ran(req(304, 1<<64-1), req(302, 1), req(301, 7), req(300, 4)))
	isState(t, "all", e, 0, api.ElectionState{View: bal(1, 0), Length: 10, EpochEnd: 25})
	asked(t, e, req(300, 1)) // nothing is kept of what has run
}

// Nothing is asked of a batch: it may be none that is valid.
func TestP13_4AnyBatch(t *testing.T) {
	e := made(t)
	asked(t, e, req(300, 1), req(301, 1), req(302, 1))
	b := api.Batch{Stamp: 1 << 63}
	for i := range uint64(100) {
		b.Reqs = append(b.Reqs, req(i, i, make([]byte, 800)...), req(300, 0))
	}
	was := e.State()
	e.Executed(b)
	isState(t, "nobody's", e, 0, was)
	b.Reqs = append(b.Reqs, req(302, 1, make([]byte, 800)...), req(300, 1))
	e.Executed(b)
	isState(t, "two", e, 0, api.ElectionState{View: bal(1, 0), Length: 10, EpochEnd: 15, This: list(req(301, 1))})
}
