package cluster_test

import (
	"testing"

	"quorum/api"
	"quorum/cluster"
)

// roundOf plays a calm round by other events, step by step.
func roundOf(t testing.TB, c *cluster.Cluster, s api.Setup) []api.Seen {
	t.Helper()
	seen := do(t, c, tick(-1, 1))
	for _, a := range s.Clients {
		if k := c.Client(a.Id); k.Waits && k.Clock >= k.Sent+a.Resend {
			seen = append(seen, do(t, c, again(a.Id))...)
		}
	}
	for range len(c.Flight()) {
		seen = append(seen, do(t, c, deliver(0))...)
	}
	for n := range 2*s.Config.F + 1 {
		seen = append(seen, do(t, c, step(n, uint64(10*max(c.Node(n).Inbox, 1))))...)
	}
	return seen
}

// A calm round is its four steps, one behind the other.
func TestP16_2ARoundStepByStep(t *testing.T) {
	for at, s := range shapes()[:4] {
		c, x := begun(t, s), begun(t, s)
		d := newChaos(t, s, c, uint64(77+at))
		for i := range 400 {
			e := d.event()
			if e.Kind == api.ECalm {
				e.Count = 1
				got, want := do(t, c, e), roundOf(t, x, s)
				if !same(eventless(got), eventless(want)) {
					t.Fatalf("shape %d, event %d: %+v, want %+v", at, i, got, want)
				}
			} else {
				do(t, c, e)
				do(t, x, e)
			}
			if !same(lookAt(c, s), lookAt(x, s)) {
				t.Fatalf("shape %d, event %d: %+v, want %+v", at, i, lookAt(c, s), lookAt(x, s))
			}
		}
	}
}

// So many rounds at one event are so many events of one round.
func TestP16_2RoundsOneByOne(t *testing.T) {
	s := shapes()[0]
	c, x := begun(t, s), begun(t, s)
	for _, k := range []uint64{0, 1, 7, 60} {
		do(t, c, send(256, transfer(1)...), send(258))
		do(t, x, send(256, transfer(1)...), send(258))
		var want []api.Seen
		for range k {
			want = append(want, do(t, x, calm(1))...)
		}
		if got := do(t, c, calm(k)); !same(eventless(got), eventless(want)) || !same(lookAt(c, s), lookAt(x, s)) {
			t.Errorf("%d rounds: %+v, want %+v", k, got, want)
		}
	}
}

// What is already in an inbox is taken in the next round, too; a replica that is in the midst of its turn goes on there.
func TestP16_2ARoundTakesTheInbox(t *testing.T) {
	c, _ := led(t, example())
	do(t, c, step(0, 4))
	for i := range 4 {
		do(t, c, forge(300+uint64(i), 0, datagram(t, request(1))...), deliver(0))
	}
	seen := do(t, c, calm(1))
	isInbox(t, "behind the round", c, 0, 0, 0)
	got := sentKind(t, seen, 0, api.KPropose)
	if len(got) < 9 || len(got[0].Batch.Reqs) != 1 || got[0].Batch.Stamp != 7 {
		t.Errorf("proposed %+v", got)
	}
}

// P16.6: the bound.
func TestP16_6Bound(t *testing.T) {
	for what, x := range map[string]struct {
		turn func(*api.Setup)
		want uint64
	}{
		"the example":   {func(s *api.Setup) {}, 17728},
		"EpochMax 60":   {func(s *api.Setup) { s.Config.EpochMax = 60 }, 0},
		"EpochMax 71":   {func(s *api.Setup) { s.Config.EpochMax = 71 }, 0},
		"EpochMax 72":   {func(s *api.Setup) { s.Config.EpochMax = 72 }, 64 * (144 + 12 + 5 + 100)},
		"Delay 8":       {func(s *api.Setup) { s.Config.Delay = 8 }, 64 * (160 + 8 + 12 + 5 + 100)},
		"Delay 9":       {func(s *api.Setup) { s.Config.Delay = 9 }, 0},
		"Beat 5":        {func(s *api.Setup) { s.Config.Beat = 5 }, 64 * (160 + 20 + 5 + 100)},
		"Beat 6":        {func(s *api.Setup) { s.Config.Beat = 6 }, 0},
		"no clients":    {func(s *api.Setup) { s.Clients = nil }, 64 * (160 + 12 + 100)},
		"three clients": {three, 64 * (160 + 12 + 9 + 100)},
		"the greatest": {func(s *api.Setup) {
			s.Config.Delay, s.Config.Beat, s.Config.EpochMax = 1000, 1000, 100000
			s.Clients[0].Resend = 1000
		}, 64 * (200000 + 1000 + 4000 + 1000 + 100)},
		"refused":        {func(s *api.Setup) { s.Config.F = 4 }, 0},
		"bad accounts":   {func(s *api.Setup) { s.Accounts[0].ID = 0 }, 0},
		"bad clients":    {func(s *api.Setup) { s.Clients[0].Resend = 1001 }, 0},
		"too many":       {func(s *api.Setup) { s.Clients = clients(9) }, 0},
		"a far too long": {func(s *api.Setup) { s.Config.Delay = most }, 0},
		"far too long":   {func(s *api.Setup) { s.Config.Beat = 1 << 62 }, 0},
		"zeros":          {func(s *api.Setup) { *s = api.Setup{} }, 0},
	} {
		if got := cluster.Bound(with(x.turn)); got != x.want {
			t.Errorf("%s: %d, want %d", what, got, x.want)
		}
	}
}

// mended makes a replica that has not stopped be up, on a disk without a fuse.
func (w *watch) mended(node int) {
	w.t.Helper()
	for _, e := range []api.Event{restart(node), restart(node), crash(node), restart(node)} { // the first may meet a fuse; a crash takes it off
		w.do(e)
	}
	if k := w.c.Node(node); k.How != api.NodeUp || w.c.Disk(node).Fuse != -1 {
		w.t.Fatalf("replica %d: %+v", node, k)
	}
}

// waits tells whether a client of the setup waits.
func waits(c *cluster.Cluster, s api.Setup) bool {
	for _, a := range s.Clients {
		if c.Client(a.Id).Waits {
			return true
		}
	}
	return false
}

// slow are setups whose numbers make calm take long.
func slow() []api.Setup {
	long := func(change func(s *api.Setup)) api.Setup {
		return with(func(s *api.Setup) {
			three(s)
			s.Config.MaxNum, s.Config.MaxSlot = 1<<20, 1<<20
			change(s)
		})
	}
	return []api.Setup{
		long(func(s *api.Setup) { s.Config.Delay, s.Config.Epoch, s.Config.EpochMax = 100, 1, 172 }),
		long(func(s *api.Setup) { s.Config.Beat, s.Config.Epoch, s.Config.EpochMax = 50, 1, 260 }),
		long(func(s *api.Setup) { s.Config.F, s.Config.Beat, s.Config.Epoch, s.Config.EpochMax = 3, 1, 64, 64 }),
		long(func(s *api.Setup) { s.Config.Epoch, s.Config.EpochMax = 400, 400 }),
		long(func(s *api.Setup) {
			s.Clients = []api.ClientSetup{{Id: 256, Resend: 300}, {Id: 257, Resend: 1}}
		}),
		long(func(s *api.Setup) {
			s.Clients = clients(8)
			s.Config.Window, s.Config.Every, s.Config.MaxBatch, s.Config.EpochMax = 1, 1, 1, 72
		}),
	}
}

// calmed makes F+1 replicas, or more, be up for good; the others stay as they are, or go down once and for all.
func (w *watch) calmed(x *chaos) {
	w.t.Helper()
	keep := map[int]int{}
	for len(keep) < w.s.Config.F+1 {
		if n := x.below(x.nodes()); w.c.Node(n).How != api.NodeStopped {
			keep[n]++
		}
	}
	for n := range x.nodes() {
		if keep[n] > 0 {
			w.mended(n)
		} else {
			w.do(one(x.dice, stop(n), crash(n), fuse(n, uint64(x.below(300))), restart(n), calm(0)))
		}
	}
	for _, a := range w.s.Clients {
		if !w.c.Client(a.Id).Waits {
			w.do(send(a.Id, one(x.dice, x.cmds...)...))
		}
	}
}

// P16.6, W10: behind whatever has been, when it is calm, every client that waits is answered within the bound; and all is as it must be.
func TestP16_6CalmAnswers(t *testing.T) {
	counts := map[string]int{}
	for at, s := range append(shapes(), slow()...) {
		for run := range 5 {
			c := begun(t, s)
			w := newWatch(t, s, c, counts)
			d := newChaos(t, s, c, uint64(3000+100*at+run))
			d.forge, d.sends = false, 16-len(s.Clients)
			for n := range d.nodes() {
				w.do(tick(n, one(d.dice, 0, uint64(d.below(1000)), 1<<39-1<<20))) // clocks far apart
			}
			for range d.below(1200) {
				w.do(d.event())
			}
			w.calmed(d)
			rounds, bound := uint64(0), cluster.Bound(s)
			for ; rounds < bound && waits(c, s); rounds += 5 {
				w.do(calm(5))
			}
			if waits(c, s) || bound == 0 {
				t.Errorf("shape %d, run %d: somebody waits behind %d of %d rounds", at, run, rounds, bound)
			}
		}
	}
}
