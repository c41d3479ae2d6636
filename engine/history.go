package engine

import (
	"cmp"
	"slices"

	"quorum/api"
)

// request names a client's request.
type request struct{ client, seq uint64 }

// call is a call that is being gathered.
type call struct {
	api.Call
	ended bool // its answer was seen
	ran   bool // the slot in which it ran was seen
}

// history gathers calls; it knows the place of each by its request.
type history struct {
	calls  []call
	places map[request]int
}

// History gathers the calls of what was seen (P18.4).
func History(seen []api.Seen) []api.Call {
	h := &history{places: map[request]int{}}
	for _, s := range seen {
		switch s.Kind {
		case api.SAsked:
			h.add(api.Call{Client: s.Client, Seq: s.Seq, Cmd: s.Data, From: s.Event})
		case api.SReplied:
			h.end(s)
		}
	}
	for _, r := range runsOf(seen) {
		h.run(r)
	}
	var calls []api.Call
	for _, c := range h.calls {
		calls = append(calls, c.Call)
	}
	return calls
}

// add adds a call without an end, unless its request is known.
func (h *history) add(c api.Call) {
	name := request{c.Client, c.Seq}
	if _, known := h.places[name]; known {
		return
	}
	h.places[name] = len(h.calls)
	c.Cmd = copied(c.Cmd)
	c.To = -1
	h.calls = append(h.calls, call{Call: c})
}

// end ends a call by the first reply to it.
func (h *history) end(s api.Seen) {
	place, known := h.places[request{s.Client, s.Reply.Seq}]
	if !known || h.calls[place].ended {
		return
	}
	c := &h.calls[place]
	c.ended = true
	c.To, c.Stamp, c.Code, c.Data = s.Event, s.Reply.Stamp, s.Reply.Code, copied(s.Reply.Data)
}

// run tells the calls of a batch when they ran. As slots rise from one batch to the next, the first one counts. A request that no client began is a call of its own.
func (h *history) run(r run) {
	for _, q := range r.batch.Reqs {
		h.add(api.Call{Client: q.Client, Seq: q.Seq, Cmd: q.Cmd})
		c := &h.calls[h.places[request{q.Client, q.Seq}]]
		if !c.ended && !c.ran {
			c.Stamp = r.time
		}
		c.ran = true
	}
}

// run is the batch of a slot, with the slot's time.
type run struct {
	slot  uint64
	time  uint64
	batch api.Batch
}

// runsOf gives what was seen to run, rising by slot: of each slot what was seen first.
func runsOf(seen []api.Seen) []run {
	var list []run
	known := map[uint64]struct{}{}
	for _, s := range seen {
		if _, twice := known[s.Slot]; s.Kind != api.SRan || twice {
			continue
		}
		known[s.Slot] = struct{}{}
		list = append(list, run{slot: s.Slot, batch: s.Batch})
	}
	slices.SortFunc(list, func(a, b run) int { return cmp.Compare(a.slot, b.slot) })
	time := uint64(0)
	for i := range list {
		time = max(time, list[i].batch.Stamp)
		list[i].time = time
	}
	return list
}

// copied gives bytes of their own; nil for none.
func copied(data []byte) []byte {
	return append([]byte(nil), data...)
}
