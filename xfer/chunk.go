package xfer

import (
	"errors"

	"quorum/api"
	"quorum/snap"
)

// verdict is what comes of holding a chunk against its root.
type verdict int

const (
	belongs   verdict = iota
	misshapen         // no snapshot has a chunk, or a path, of that form in that place
	astray            // its form is right, but its path leads to another root
)

// wellFormed tells whether a message is a chunk that some supplier may have sent (P14.7).
func wellFormed(m api.Msg, maxSlot uint64) bool {
	switch {
	case m.Kind != api.KGive, m.Slot > maxSlot:
		return false
	case m.Count == 0, m.Count > api.MaxChunks, m.Index >= m.Count:
		return false
	case len(m.Data) == 0:
		return false
	}
	return judge(m) == belongs
}

// judge holds a chunk against its root.
func judge(m api.Msg) verdict {
	err := snap.Verify(m.Root, likelySize(m), int(m.Index), m.Data, m.Path)
	var f *api.Fault
	switch {
	case err == nil:
		return belongs
	case errors.As(err, &f) && f.Layer == "snap" && errors.Is(f, api.ErrSnapRoot):
		return astray
	}
	return misshapen
}

// likelySize gives a size that the snapshot may have, as only the last chunk tells the true one: for all others each size with as many chunks is as good.
func likelySize(m api.Msg) int {
	last := 1
	if m.Index == m.Count-1 {
		last = len(m.Data)
	}
	return int(m.Count-1)*api.ChunkSize + last
}
