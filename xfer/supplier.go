package xfer

import (
	"quorum/api"
	"quorum/snap"
)

// Supplier holds a replica's last snapshot and gives its chunks.
type Supplier struct {
	seat     seat
	state    api.SupplierState // its Slot is 0 as long as there is no snapshot
	snapshot []byte
}

// NewSupplier gives a supplier that has no snapshot (P14.1).
func NewSupplier(c api.Config, self int) (*Supplier, error) {
	place, err := newSeat(c, self)
	if err != nil {
		return nil, err
	}
	return &Supplier{seat: place}, nil
}

// made tells whether NewSupplier gave this supplier.
func (s *Supplier) made() bool { return s != nil && s.seat.made() }

// Put takes a snapshot in the place of the last one (P14.2).
func (s *Supplier) Put(slot uint64, snapshot []byte) error {
	switch {
	case !s.made():
		return refusal(0, api.ErrZero)
	case slot == 0, slot > s.seat.maxSlot(), slot < s.state.Slot:
		return refusal(0, api.ErrXferSlot)
	case len(snapshot) == 0, len(snapshot) > api.MaxSnap:
		return refusal(0, api.ErrXferSnap)
	}
	s.snapshot = twin(snapshot)
	s.state = api.SupplierState{Slot: slot, Count: uint64(snap.Chunks(len(snapshot))), Root: snap.Root(snapshot)}
	return nil
}

// Want answers a want (P14.3). One that wants an older snapshot is told of this one by its first chunk: the older one is gone.
func (s *Supplier) Want(src api.Addr, m api.Msg) []api.Send {
	switch {
	case !s.made(), !s.seat.peer(src), m.Kind != api.KWant:
		return nil
	case s.state.Slot == 0, m.Slot > s.state.Slot:
		return nil
	case m.Slot < s.state.Slot:
		return s.give(src, 0)
	}
	return s.give(src, m.Index)
}

// give sends a chunk, if there is one of that index.
func (s *Supplier) give(to api.Addr, index uint64) []api.Send {
	if index >= s.state.Count {
		return nil
	}
	// Neither call refuses an index that is below the count.
	data, _ := snap.Chunk(s.snapshot, int(index))
	path, _ := snap.Path(s.snapshot, int(index))
	m := api.Msg{Kind: api.KGive, Slot: s.state.Slot, Index: index, Count: s.state.Count, Root: s.state.Root, Data: data, Path: path}
	return []api.Send{{To: to, Msg: m}}
}

// State tells the supplier as plain data (P14.4).
func (s *Supplier) State() api.SupplierState {
	if !s.made() {
		return api.SupplierState{}
	}
	return s.state
}
