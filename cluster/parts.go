package cluster

import (
	"quorum/api"
	"quorum/wire"
)

// addSent adds to what is seen that a message is sent; one that has no datagram is not.
func addSent(list []api.Seen, from api.Addr, s api.Send) []api.Seen {
	data, err := wire.EncodeMsg(s.Msg)
	if err != nil {
		return list
	}
	return append(list, api.Seen{Kind: api.SSent, From: from, To: s.To, Data: data})
}

// copied gives bytes of their own, and nil for none.
func copied(b []byte) []byte { return append([]byte(nil), b...) }

// later gives a clock that has gone on; no clock passes MaxTick.
func later(clock, by uint64) uint64 { return min(clock+by, api.MaxTick) }
