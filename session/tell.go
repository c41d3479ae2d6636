package session

import (
	"slices"

	"quorum/api"
	"quorum/snap"
)

// Ask tells whether a client's request has run, and its reply, if it is the last one (P7.5).
func (m *Machine) Ask(client, seq uint64) (api.Reply, api.Errno) {
	if !m.made() {
		return api.Reply{}, api.ErrZero
	}
	s, known := m.sessions[client]
	switch {
	case known && seq == s.Seq:
		return replyOf(s), api.OK
	case known && seq < s.Seq:
		return api.Reply{}, api.ErrSessionOld
	}
	return api.Reply{}, api.ErrSessionNew
}

// Slot tells how many batches have run (P7.6).
func (m *Machine) Slot() uint64 {
	if !m.made() {
		return 0
	}
	return m.slot
}

// Now tells the machine's time (P7.6).
func (m *Machine) Now() uint64 {
	if !m.made() {
		return 0
	}
	return m.now
}

// Image tells the machine as plain data (P7.6).
func (m *Machine) Image() api.Image {
	if !m.made() {
		return api.Image{}
	}
	return api.Image{Slot: m.slot, Now: m.now, House: m.House.Image(), Sessions: m.list()}
}

// list tells the sessions rising by client.
func (m *Machine) list() []api.Session {
	var clients []uint64
	for client := range m.sessions {
		clients = append(clients, client)
	}
	slices.Sort(clients)
	var list []api.Session
	for _, client := range clients {
		list = append(list, twin(m.sessions[client]))
	}
	return list
}

// Snapshot tells the machine as bytes (P7.6). Every machine's image is well formed, so that Pack refuses none.
func (m *Machine) Snapshot() ([]byte, error) {
	if !m.made() {
		return nil, refusal(0, api.ErrZero)
	}
	b, err := snap.Pack(m.Image())
	if err != nil {
		return nil, behind(err)
	}
	return b, nil
}
