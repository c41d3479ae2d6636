package audit_test

import (
	"testing"

	"quorum/api"
	"quorum/audit"
	"quorum/cluster"
)

// whom are the clients of a run, and what they ask for.
func whom(t testing.TB) (api.Setup, []asking) {
	t.Helper()
	s := api.Setup{
		Config:   api.Config{F: 1, MaxBatch: 2, Window: 4, Every: 2, Beat: 3, Epoch: 20, EpochMax: 80, MaxNum: 1 << 20, MaxSlot: 1 << 20},
		Accounts: threeAccounts(),
	}
	for client := uint64(256); client < 260; client++ {
		s.Clients = append(s.Clients, api.ClientSetup{Id: client, Resend: 4})
	}
	return s, askings(t)
}

// storm draws an event of a run in which packets are lost, doubled and mixed, replicas crash, and nobody forges.
func (d *dice) storm(c *cluster.Cluster, asks []asking, sends *int) api.Event {
	node := d.below(3)
	flight := len(c.Flight())
	switch k := d.below(100); {
	case k < 40 && flight > 0:
		return api.Event{Kind: one(d, api.EDeliver, api.EDeliver, api.EDeliver, api.EDrop, api.ECopy), Index: d.below(flight)}
	case k < 65:
		return api.Event{Kind: api.EStep, Node: node, Count: uint64(d.below(30))}
	case k < 72:
		return api.Event{Kind: api.ETick, Node: one(d, node, -1), Count: uint64(d.below(6))}
	case k < 82:
		return api.Event{Kind: api.ECalm, Count: uint64(d.below(8))}
	case k < 86:
		return api.Event{Kind: api.ECrash, Node: node}
	case k < 92:
		return api.Event{Kind: api.ERestart, Node: node}
	case k < 97 && *sends > 0:
		*sends--
		ask := one(d, asks...)
		return api.Event{Kind: api.ESend, Client: ask.client, Data: ask.cmd}
	}
	return api.Event{Kind: api.EAgain, Client: 256 + uint64(d.below(4))}
}

// seenCalls gathers what the clients saw: a call for each that was begun, with its answer; of one without, the time at which it ran.
func seenCalls(seen []api.Seen) []api.Call {
	var calls []api.Call
	for _, s := range seen {
		if s.Kind == api.SAsked {
			calls = append(calls, api.Call{Client: s.Client, Seq: s.Seq, Cmd: s.Data, From: s.Event, To: -1})
		}
	}
	for i := range calls {
		c := &calls[i]
		c.Stamp = ranAt(seen, *c)
		for _, s := range seen {
			if s.Kind == api.SReplied && s.Client == c.Client && s.Reply.Seq == c.Seq {
				c.To, c.Stamp, c.Code, c.Data = s.Event, s.Reply.Stamp, s.Reply.Code, s.Reply.Data
			}
		}
	}
	return calls
}

// ranAt tells the machine's time in the lowest slot in which a call's request ran; 0, if it did not.
func ranAt(seen []api.Seen, c api.Call) uint64 {
	slot := uint64(most)
	for _, s := range seen {
		if s.Kind == api.SRan && holds(s.Batch, c) {
			slot = min(slot, s.Slot)
		}
	}
	now := uint64(0)
	for _, s := range seen {
		if s.Kind == api.SRan && slot != most && s.Slot <= slot {
			now = max(now, s.Batch.Stamp)
		}
	}
	return now
}

// holds tells whether a call's request stands in a batch.
func holds(b api.Batch, c api.Call) bool {
	for _, r := range b.Reqs {
		if r.Client == c.Client && r.Seq == c.Seq {
			return true
		}
	}
	return false
}

// W3: what the clients of a cluster see is linear, as long as nobody forges; with one answer that was never given it is not.
func TestW3Linear(t *testing.T) {
	d := &dice{3}
	answers, silent, over := 0, 0, 0
	for range 60 {
		setup, asks := whom(t)
		c, err := cluster.New(setup)
		if err != nil {
			t.Fatal(err)
		}
		var seen []api.Seen
		sends := api.MaxCalls
		for range 250 {
			list, err := c.Do(d.storm(c, asks, &sends))
			if err != nil {
				t.Fatal(err)
			}
			seen = append(seen, list...)
		}
		calls := seenCalls(seen)
		order, err := audit.Check(setup.Accounts, calls)
		if err != nil {
			t.Fatalf("%v: %+v", err, calls)
		}
		explained(t, calls, order)
		for i, c := range calls {
			if c.To < 0 {
				silent += min(1, int(c.Stamp))
				continue
			}
			answers++
			for _, e := range calls[:i] {
				if e.To >= c.From {
					over++
				}
			}
			lie := append([]api.Call(nil), calls...)
			lie[i].Code = 999
			noOrder(t, "an answer that was never given", setup.Accounts, lie)
		}
	}
	if answers < 100 || silent < 10 || over < 30 {
		t.Errorf("only %d answers, %d calls that ran without one, %d pairs of calls that overlap", answers, silent, over)
	}
}
