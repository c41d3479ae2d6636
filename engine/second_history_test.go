package engine_test

import "quorum/api"

// secondHistory gathers calls by going through all that was seen for each.
func secondHistory(seen []api.Seen) []api.Call {
	type name struct{ client, seq uint64 }
	var slots []api.Seen // the SRan that count, rising
	for slot := range slotsOf(seen) {
		for _, s := range seen {
			if s.Kind == api.SRan && s.Slot == slot {
				slots = append(slots, s)
				break
			}
		}
	}
	for i := range slots { // by hand
		for j := range slots[:i] {
			if slots[j].Slot > slots[i].Slot {
				slots[i], slots[j] = slots[j], slots[i]
			}
		}
	}
	stamp := func(n name) uint64 {
		time := uint64(0)
		for _, s := range slots {
			time = max(time, s.Batch.Stamp)
			for _, q := range s.Batch.Reqs {
				if (name{q.Client, q.Seq}) == n {
					return time
				}
			}
		}
		return 0
	}
	own := func(b []byte) []byte { return append([]byte(nil), b...) }
	var calls []api.Call
	told := map[name]bool{}
	for i, s := range seen {
		n := name{s.Client, s.Seq}
		if s.Kind != api.SAsked || told[n] {
			continue
		}
		told[n] = true
		c := api.Call{Client: s.Client, Seq: s.Seq, Cmd: own(s.Data), From: s.Event, To: -1, Stamp: stamp(n)}
		for _, r := range seen[i:] {
			if r.Kind == api.SReplied && r.Client == s.Client && r.Reply.Seq == s.Seq {
				c.To, c.Stamp, c.Code, c.Data = r.Event, r.Reply.Stamp, r.Reply.Code, own(r.Reply.Data)
				break
			}
		}
		calls = append(calls, c)
	}
	for _, s := range slots {
		for _, q := range s.Batch.Reqs {
			if n := (name{q.Client, q.Seq}); !told[n] {
				told[n] = true
				calls = append(calls, api.Call{Client: q.Client, Seq: q.Seq, Cmd: own(q.Cmd), To: -1, Stamp: stamp(n)})
			}
		}
	}
	return calls
}

// slotsOf are the slots that were seen to run.
func slotsOf(seen []api.Seen) map[uint64]bool {
	slots := map[uint64]bool{}
	for _, s := range seen {
		if s.Kind == api.SRan {
			slots[s.Slot] = true
		}
	}
	return slots
}
