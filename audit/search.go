package audit

import (
	"bytes"

	"quorum/api"
	"quorum/session"
)

// standing is how far an order has come: the places that stand in it, a bit each, and the snapshot of the machine that has run their calls. What may come next hangs on these alone, so that a standing which led nowhere never leads anywhere.
type standing struct {
	places  uint
	machine string
}

// standingOf gives the standing of a machine that has run the calls of these places.
func standingOf(m *session.Machine, places uint) (standing, error) {
	snapshot, err := m.Snapshot()
	if err != nil {
		return standing{}, err
	}
	return standing{places, string(snapshot)}, nil
}

// has tells whether a place stands in the order.
func (s standing) has(place int) bool { return s.places>>place&1 == 1 }

// search gives the first order that explains the history, and whether there is one (P17.3).
func search(calls []api.Call, here standing) ([]int, bool) {
	failed := map[standing]struct{}{}
	var order []int
	var way []standing // the standing ahead of each place of the order
	place := 0
down:
	for !whole(calls, here) {
		for ; place < len(calls); place++ {
			there, why := next(calls, here, place)
			if why != nil {
				continue
			}
			if _, known := failed[there]; known {
				continue
			}
			order, way = append(order, place), append(way, here)
			here, place = there, 0
			continue down
		}
		failed[here] = struct{}{}
		last := len(order) - 1
		if last < 0 {
			break down
		}
		here, place = way[last], order[last]+1
		order, way = order[:last], way[:last]
	}
	clear(failed)
	return order, whole(calls, here)
}

// next gives the standing behind one more place of the order, or the first reason why that place can't come next (P17.2).
func next(calls []api.Call, s standing, place int) (standing, error) {
	if place < 0 || place >= len(calls) || s.has(place) {
		return standing{}, api.ErrAuditPlace
	}
	c := calls[place]
	switch {
	case tooEarly(calls, s, c.From):
		return standing{}, api.ErrAuditEarly
	case c.Stamp < latest(calls, s):
		return standing{}, api.ErrAuditStamp
	}
	return run(s, place, c)
}

// whole tells whether every call that has an answer is in the order.
func whole(calls []api.Call, s standing) bool {
	for place, c := range calls {
		if answered(c) && !s.has(place) {
			return false
		}
	}
	return true
}

// tooEarly tells whether a call that had ended ahead of that moment is not in the order.
func tooEarly(calls []api.Call, s standing, from int) bool {
	for place, c := range calls {
		if answered(c) && c.To < from && !s.has(place) {
			return true
		}
	}
	return false
}

// latest gives the greatest stamp in the order. As stamps never go back along it, that is the last one's.
func latest(calls []api.Call, s standing) uint64 {
	stamp := uint64(0)
	for place, c := range calls {
		if s.has(place) {
			stamp = max(stamp, c.Stamp)
		}
	}
	return stamp
}

// run gives the standing behind a call that the machine runs now, if it answers what was seen.
func run(s standing, place int, c api.Call) (standing, error) {
	m, err := session.Load([]byte(s.machine)) // a machine of its own: that of s may be asked for again
	if err != nil {
		return standing{}, err
	}
	replies, err := m.Batch(api.Batch{Stamp: c.Stamp, Reqs: []api.Request{{Client: c.Client, Seq: c.Seq, Cmd: c.Cmd}}})
	if err != nil {
		return standing{}, err
	}
	if answered(c) && !tells(replies, c) {
		return standing{}, api.ErrAuditAnswer
	}
	return standingOf(m, s.places|1<<place)
}

// tells tells whether the replies are just the one that was seen.
func tells(replies []api.Reply, c api.Call) bool {
	if len(replies) != 1 {
		return false
	}
	r := replies[0]
	return r.Client == c.Client && r.Seq == c.Seq && r.Stamp == c.Stamp && r.Code == c.Code && bytes.Equal(r.Data, c.Data)
}
