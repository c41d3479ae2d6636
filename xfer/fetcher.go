package xfer

import (
	"bytes"

	"quorum/api"
)

// Fetcher asks for a snapshot chunk by chunk.
type Fetcher struct {
	seat  seat
	state api.FetcherState
	stand stand // nil without a goal
}

// NewFetcher gives a fetcher without a goal (P14.1).
func NewFetcher(c api.Config, self int) (*Fetcher, error) {
	place, err := newSeat(c, self)
	if err != nil {
		return nil, err
	}
	return &Fetcher{seat: place}, nil
}

// made tells whether NewFetcher gave this fetcher.
func (f *Fetcher) made() bool { return f != nil && f.seat.made() }

// Aim tells of a snapshot that a replica has (P14.6).
func (f *Fetcher) Aim(src api.Addr, slot, have, now uint64) []api.Send {
	switch {
	case !f.made(), !f.seat.peer(src):
		return nil
	case slot > f.seat.maxSlot(), slot <= have, slot <= f.state.Goal:
		return nil
	}
	f.state, f.stand = api.FetcherState{Goal: slot}, waiting
	return f.turn(int(src), now)
}

// Give takes a chunk (P14.7).
func (f *Fetcher) Give(src api.Addr, m api.Msg, now uint64) []api.Send {
	if !f.made() || f.stand == nil || !f.seat.peer(src) || !wellFormed(m, f.seat.maxSlot()) {
		return nil
	}
	next := f.stand(f, m)
	if next == nil {
		return nil
	}
	f.stand = next
	return f.turn(int(src), now)
}

// Tick asks again for what is late (P14.8).
func (f *Fetcher) Tick(now uint64) []api.Send {
	if !f.made() || f.stand == nil || f.whole() || !f.late(now) {
		return nil
	}
	return f.turn(f.seat.behind(f.state.From), now)
}

// late tells whether nothing has been heard for two heartbeats. The sum of Last and these might not go into 64 bits.
func (f *Fetcher) late(now uint64) bool {
	return now >= f.state.Last && now-f.state.Last >= 2*f.seat.group.Config().Beat
}

// turn turns to a replica, and asks it for the next chunk, unless all are there.
func (f *Fetcher) turn(to int, now uint64) []api.Send {
	f.state.From, f.state.Last = to, now
	if f.whole() {
		return nil
	}
	want := api.Msg{Kind: api.KWant, Slot: f.state.Goal, Index: f.next()}
	return []api.Send{{To: api.Addr(to), Msg: want}}
}

// next is the index of the chunk that comes next.
func (f *Fetcher) next() uint64 { return uint64(len(f.state.Chunks)) }

// whole tells whether all chunks are there. As long as none has come Count is 0.
func (f *Fetcher) whole() bool { return f.state.Count > 0 && f.next() == f.state.Count }

// Ready tells the snapshot, once it is there whole (P14.9).
func (f *Fetcher) Ready() (uint64, []byte, bool) {
	if !f.made() || !f.whole() {
		return 0, nil, false
	}
	return f.state.Goal, bytes.Join(f.state.Chunks, nil), true
}

// Drop lets go of a goal that has been reached otherwise (P14.10).
func (f *Fetcher) Drop(have uint64) {
	if f.made() && f.state.Goal <= have {
		f.state, f.stand = api.FetcherState{}, nil
	}
}

// State tells the fetcher as plain data (P14.11).
func (f *Fetcher) State() api.FetcherState {
	if !f.made() {
		return api.FetcherState{}
	}
	told := f.state
	told.Chunks = nil
	for _, c := range f.state.Chunks {
		told.Chunks = append(told.Chunks, twin(c))
	}
	return told
}
