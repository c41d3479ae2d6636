package deal

import (
	"quorum/api"
	"quorum/wire"
)

// order is a command with the client that gives it and the time that comes with it.
type order struct {
	api.Cmd
	client uint64
	now    uint64
}

// Apply reads a client's command and carries it out (P5.4).
func (h *House) Apply(client uint64, cmd []byte, now uint64) api.Result {
	if !h.made() {
		return result(api.ErrZero)
	}
	c, err := Unpack(cmd)
	if err != nil {
		return result(api.ErrDealCommand)
	}
	return h.Do(client, c, now)
}

// Do carries out a client's command (P5.5 to P5.12).
func (h *House) Do(client uint64, c api.Cmd, now uint64) api.Result {
	if !h.made() {
		return result(api.ErrZero)
	}
	if _, err := Pack(c); err != nil {
		return result(api.ErrDealCommand)
	}
	return doers()[c.Verb](h, order{c, client, now})
}

// result is what came of a command: its code, and the numbers that it tells.
func result(code api.Errno, told ...uint64) api.Result {
	w := wire.NewWriter(api.MaxData)
	for _, n := range told {
		w.U64(n)
	}
	data, _ := w.Bytes() // at most eight numbers are told: there is room
	return api.Result{Code: code, Data: data}
}
