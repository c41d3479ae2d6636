package proposer_test

import (
	"math"
	"testing"

	"quorum/api"
)

func TestP11_5NotAsking(t *testing.T) {
	p := made(t)
	isFalse(t, "idle", p, func() bool { return p.Promise(1, promise(bal(0, 0), 0)) })
	isFalse(t, "idle", p, func() bool { return p.Promise(1, promise(bal(5, 0), 0)) })
	p = leading(t, small(), 0, nil)
	isFalse(t, "leading", p, func() bool { return p.Promise(0, promise(bal(5, 0), 0)) })
	p = asking(t)
	p.Enter(bal(5, 1), nil)
	isFalse(t, "idle again", p, func() bool { return p.Promise(0, promise(bal(5, 0), 0)) })
}

func TestP11_5Source(t *testing.T) {
	for f := 1; f <= api.MaxF; f++ {
		p := madeOf(t, withF(f), 0)
		p.Enter(bal(5, 0), nil)
		last := api.Addr(2 * f)
		for _, src := range []api.Addr{last + 1, last + 2, 7, 255, 256, 1 << 32, 1 << 63, math.MaxUint64} {
			if src > last {
				isFalse(t, "nobody", p, func() bool { return p.Promise(src, promise(bal(5, 0), 0)) })
			}
		}
		for n := range last + 1 {
			src := last - n
			if !p.Promise(src, promise(bal(5, 0), uint64(src))) {
				t.Errorf("replica %d is not heard", src)
			}
			isFalse(t, "twice", p, func() bool { return p.Promise(src, promise(bal(5, 0), 9, vote(9, bal(1, 0), batchA()))) })
		}
		var want []api.Promised
		for n := range 2*f + 1 {
			want = append(want, api.Promised{Node: n, Low: uint64(n)})
		}
		isState(t, "all", p, api.ProposerState{Phase: api.Asking, Bal: bal(5, 0), Promises: want})
	}
}

func TestP11_5Message(t *testing.T) {
	p := asking(t)
	for kind := api.Kind(-1); kind < 13; kind++ {
		m := promise(bal(5, 0), 0)
		m.Kind = kind
		if kind != api.KPromise {
			isFalse(t, "another kind", p, func() bool { return p.Promise(1, m) })
		}
	}
	for _, b := range []api.Ballot{bal(0, 0), bal(4, 0), bal(6, 0), bal(5, 1), bal(5, -1), bal(51, 0)} {
		isFalse(t, "another ballot", p, func() bool { return p.Promise(1, promise(b, 0)) })
	}
	for _, low := range []uint64{101, 102, 1 << 40, 1 << 63, math.MaxUint64 - 3, math.MaxUint64} {
		isFalse(t, "a low too high", p, func() bool { return p.Promise(1, promise(bal(5, 0), low)) })
		isFalse(t, "with a vote", p, func() bool { return p.Promise(1, promise(bal(5, 0), low, vote(low, bal(1, 0), batchA()))) })
	}
	if !p.Promise(1, promise(bal(5, 0), 100)) {
		t.Error("the last low is not taken")
	}
}

func TestP11_5Votes(t *testing.T) {
	p := asking(t)
	good := vote(12, bal(5, 0), batchA())
	wrong := map[string][]api.Vote{
		"below low":             {vote(11, bal(1, 0), batchA())},
		"far below low":         {vote(0, bal(1, 0), batchA())},
		"behind the window":     {vote(16, bal(1, 0), batchA())},
		"far behind the window": {vote(math.MaxUint64, bal(1, 0), batchA())},
		"twice the same slot":   {good, good},
		"falling":               {good, vote(14, bal(1, 0), batchA()), vote(13, bal(1, 0), batchA())},
		"a ballot above":        {vote(12, bal(5, 1), batchA())},
		"a ballot far above":    {vote(12, bal(6, 0), batchA())},
		"the second is wrong":   {good, vote(16, bal(1, 0), batchA())},
		"the first is wrong":    {vote(11, bal(1, 0), batchA()), good},
	}
	for what, b := range badBallots() {
		wrong[what] = []api.Vote{vote(12, b, batchA())}
		wrong[what+", as the last"] = []api.Vote{good, vote(13, b, batchA())}
	}
	wrong["number 1 of none"] = []api.Vote{vote(12, bal(1, 3), batchA())}
	wrong["number 1 of one below"] = []api.Vote{vote(12, bal(1, -1), batchA())}
	for what, b := range badBatches() {
		wrong["batch: "+what] = []api.Vote{vote(12, bal(1, 0), b)}
		wrong["batch: "+what+", as the last"] = []api.Vote{good, vote(13, bal(1, 0), b)}
	}
	for what, votes := range wrong {
		isFalse(t, what, p, func() bool { return p.Promise(1, promise(bal(5, 0), 12, votes...)) })
	}
	for _, low := range []uint64{97, 98, 99, 100} {
		isFalse(t, "the last slot of all", p, func() bool { return p.Promise(1, promise(bal(5, 0), low, vote(100, bal(1, 0), batchA()))) })
	}
}

// What lies at a limit is taken, and told as it was.
func TestP11_5Kept(t *testing.T) {
	for _, c := range []struct {
		low   uint64
		votes []api.Vote
	}{
		{0, nil},
		{12, []api.Vote{vote(12, bal(5, 0), batchA())}},
		{12, []api.Vote{vote(15, bal(1, 0), fullBatch())}},
		{12, []api.Vote{vote(12, bal(1, 2), api.Batch{}), vote(13, bal(4, 2), batchB()), vote(14, bal(5, 0), batchA()), vote(15, bal(1, 1), fullBatch())}},
		{99, []api.Vote{vote(99, bal(1, 0), batchA())}},
		{96, []api.Vote{vote(96, bal(1, 0), batchA()), vote(99, bal(1, 0), batchA())}},
	} {
		p := asking(t)
		if !p.Promise(2, promise(bal(5, 0), c.low, c.votes...)) {
			t.Errorf("%+v is not taken", c)
		}
		isState(t, "kept", p, api.ProposerState{Phase: api.Asking, Bal: bal(5, 0), Promises: []api.Promised{{Node: 2, Low: c.low, Votes: c.votes}}})
	}
	most := uint64(1 << 40)
	p := madeOf(t, wide(), 6)
	p.Enter(bal(most, 6), nil)
	votes := []api.Vote{vote(most-8, bal(most, 6), fullBatch()), vote(most-1, bal(most, 5), fullBatch())}
	if !p.Promise(6, promise(bal(most, 6), most-8, votes...)) || !p.Promise(5, promise(bal(most, 6), most)) {
		t.Error("the last slots of all are not taken")
	}
}

// Fields that a promise does not use are not looked at; nil and empty lists are the same.
func TestP11_5Unused(t *testing.T) {
	m := promise(bal(5, 0), 3, vote(3, bal(1, 0), api.Batch{Stamp: 2, Reqs: []api.Request{}}), vote(4, bal(1, 0), batch(1, api.Request{Client: 256, Seq: 1, Cmd: []byte{}})))
	m.Seq, m.Stamp, m.Code, m.Slot, m.Batch = 7, math.MaxUint64, 5, math.MaxUint64, badBatches()["number 0"]
	m.Cmd, m.Data, m.Suspect, m.Index, m.Count = []byte{1}, []byte{2}, true, 3, 4
	m.Root, m.Path = api.Hash{1}, []api.Hash{{2}}
	p := asking(t)
	if !p.Promise(1, m) {
		t.Error("a stuffed promise is not taken")
	}
	empty := promise(bal(5, 0), 3)
	empty.Votes = []api.Vote{}
	if !p.Promise(2, empty) {
		t.Error("an empty list of votes is not taken")
	}
	want := []api.Promised{{Node: 1, Low: 3, Votes: []api.Vote{vote(3, bal(1, 0), batch(2)), vote(4, bal(1, 0), batch(1, r1()))}}, {Node: 2, Low: 3}}
	isState(t, "stuffed", p, api.ProposerState{Phase: api.Asking, Bal: bal(5, 0), Promises: want})
}

func TestP11_6Nothing(t *testing.T) {
	p := made(t)
	isNothing(t, "idle", p, func() api.Step { return p.Lead(7) })
	p = leading(t, small(), 0, nil)
	isNothing(t, "leading", p, func() api.Step { return p.Lead(7) })
	for f := 1; f <= api.MaxF; f++ {
		p := madeOf(t, withF(f), 0)
		p.Enter(bal(5, 0), nil)
		for n := range f + 1 {
			isNothing(t, "too few", p, func() api.Step { return p.Lead(7) })
			p.Promise(api.Addr(2*f-n), promise(bal(5, 0), 0))
		}
		isStep(t, "enough", p.Lead(7), led(2*f+1, bal(5, 0), 7))
	}
}

func TestP11_6Low(t *testing.T) {
	for _, c := range []struct{ zero, one, two, low, want uint64 }{
		{0, 0, 0, 0, 0}, {1, 2, 3, 0, 3}, {3, 2, 1, 0, 3}, {1, 3, 2, 2, 3}, {1, 3, 2, 4, 4}, {100, 0, 0, 99, 100}, {1, 2, 3, math.MaxUint64, math.MaxUint64},
	} {
		p := asking(t, r1())
		p.Promise(0, promise(bal(5, 0), c.zero))
		p.Promise(1, promise(bal(5, 0), c.one))
		p.Promise(2, promise(bal(5, 0), c.two))
		isStep(t, "the greatest low", p.Lead(c.low), led(3, bal(5, 0), c.want))
		promises := []api.Promised{{Node: 0, Low: c.zero}, {Node: 1, Low: c.one}, {Node: 2, Low: c.two}}
		isState(t, "leading", p, api.ProposerState{Phase: api.Leading, Bal: bal(5, 0), Next: c.want, Promises: promises, Queue: []api.Request{r1()}})
	}
}

func TestP11_10Asking(t *testing.T) {
	for f := 1; f <= api.MaxF; f++ {
		p := madeOf(t, withF(f), 1)
		p.Enter(bal(5, 1), many(3))
		want := toAll(2*f+1, api.Msg{Kind: api.KPrepare, Bal: bal(5, 1)})
		for n := 2 * f; n >= 0; n-- {
			isStep(t, "asked again", p.Resend(), api.Step{Sends: want[:n+1]})
			p.Promise(api.Addr(n), promise(bal(5, 1), 0))
		}
		isNothing(t, "all have promised", p, p.Resend)
	}
	p := asking(t, r1())
	p.Promise(1, promise(bal(5, 0), 0))
	was := p.State()
	want := toAll(3, api.Msg{Kind: api.KPrepare, Bal: bal(5, 0)})
	isStep(t, "but not 1", p.Resend(), api.Step{Sends: []api.Send{want[0], want[2]}})
	isState(t, "but not 1", p, was)
}

func TestP11_10Others(t *testing.T) {
	p := made(t)
	isNothing(t, "new", p, p.Resend)
	p = leading(t, small(), 0, nil, many(3)...)
	isNothing(t, "nothing is in flight", p, p.Resend)
	p = timed(t)
	was := p.State()
	want := append(proposed(3, bal(5, 0), 3, batchA()).Sends, proposed(3, bal(5, 0), 4, batch(8, r1(), s1())).Sends...)
	isStep(t, "two in flight", p.Resend(), api.Step{Sends: want})
	isState(t, "two in flight", p, was)
	p.Executed(batch(0, r2(), req(257, 2), req(300, 9)))
	isStep(t, "though they have run", p.Resend(), api.Step{Sends: want})
	p.Nominate(9, 4)
	isStep(t, "one is below low", p.Resend(), api.Step{Sends: want[3:]})
	p.Enter(bal(7, 1), nil)
	isNothing(t, "idle", p, p.Resend)
}
