package session

import "quorum/api"

// Batch runs a batch and tells the replies that it asks for (P7.4).
func (m *Machine) Batch(b api.Batch) ([]api.Reply, error) {
	if !m.made() {
		return nil, refusal(0, api.ErrZero)
	}
	if m.slot == api.MaxSlots {
		return nil, refusal(0, api.ErrSessionEnd)
	}
	if at := wrongPlace(b); at >= 0 {
		return nil, refusal(at, api.ErrSessionBatch)
	}
	m.slot++
	m.now = max(m.now, b.Stamp)
	var replies []api.Reply
	for _, r := range b.Reqs {
		if reply, is := m.answer(r); is {
			replies = append(replies, reply)
		}
	}
	return replies, nil
}

// wrongPlace tells the first place at which a batch may not be as it is; below 0, if there is none. The stamp is place 0, the number of requests 1, the requests are 2 and on.
func wrongPlace(b api.Batch) int {
	switch {
	case b.Stamp > api.MaxTick:
		return 0
	case len(b.Reqs) > api.MaxReqs:
		return 1
	}
	for i, r := range b.Reqs {
		if r.Client < uint64(api.FirstClient) || r.Seq == 0 || len(r.Cmd) > api.MaxCmd {
			return 2 + i
		}
	}
	return -1
}

// answer gives the reply to a request, which runs if it is new; false, if there is none.
func (m *Machine) answer(r api.Request) (api.Reply, bool) {
	s, known := m.sessions[r.Client]
	switch {
	case !known && len(m.sessions) >= api.MaxClients:
		return api.Reply{Client: r.Client, Seq: r.Seq, Stamp: m.now, Code: api.ErrSessionFull}, true
	case !known || r.Seq > s.Seq:
		return m.run(r), true
	case r.Seq == s.Seq:
		return replyOf(s), true
	}
	return api.Reply{}, false
}

// run has the house carry out a request; what came of it is the client's session from now on.
func (m *Machine) run(r api.Request) api.Reply {
	result := m.Apply(r.Client, r.Cmd, m.now)
	s := api.Session{Client: r.Client, Seq: r.Seq, Stamp: m.now, Code: result.Code, Data: result.Data}
	m.sessions[r.Client] = s
	return replyOf(s)
}

// replyOf gives the reply that a session has kept, in new memory.
func replyOf(s api.Session) api.Reply {
	s = twin(s)
	return api.Reply{Client: s.Client, Seq: s.Seq, Stamp: s.Stamp, Code: s.Code, Data: s.Data}
}
