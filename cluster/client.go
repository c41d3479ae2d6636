package cluster

import (
	"quorum/api"
	"quorum/wire"
)

// client is one of the setup's clients: its clock, and its last request.
type client struct {
	api.ClientSetup
	clock uint64
	seq   uint64
	waits bool
	cmd   []byte
	sent  uint64
	last  api.Reply
}

// late tells whether it is time to ask again.
func (a *client) late() bool { return a.waits && a.clock >= a.sent+a.Resend }

// begin begins a request; an older one that is not answered is given up.
func (a *client) begin(cmd []byte) []api.Seen {
	a.seq++
	a.waits = true
	a.cmd = copied(cmd)
	return []api.Seen{{Kind: api.SAsked, Client: a.Id, Seq: a.seq, Data: copied(cmd)}}
}

// ask sends the request to each of so many replicas.
func (a *client) ask(nodes int) []api.Seen {
	a.sent = a.clock
	m := api.Msg{Kind: api.KRequest, Seq: a.seq, Cmd: a.cmd}
	var list []api.Seen
	for n := range nodes {
		list = addSent(list, api.Addr(a.Id), api.Send{To: api.Addr(n), Msg: m})
	}
	return list
}

// take takes a datagram of a replica, if it is the reply to the request that waits.
func (a *client) take(data []byte) []api.Seen {
	m, err := wire.DecodeMsg(data)
	if err != nil || m.Kind != api.KReply || !a.waits || m.Seq != a.seq {
		return nil
	}
	a.waits = false
	a.last = api.Reply{Client: a.Id, Seq: m.Seq, Stamp: m.Stamp, Code: m.Code, Data: m.Data}
	return []api.Seen{{Kind: api.SReplied, Client: a.Id, Reply: a.reply()}}
}

// reply gives the last reply as memory of its own.
func (a *client) reply() api.Reply {
	r := a.last
	r.Data = copied(r.Data)
	return r
}

// look tells how the client is.
func (a *client) look() api.ClientLook {
	return api.ClientLook{Id: a.Id, Clock: a.clock, Seq: a.seq, Waits: a.waits, Sent: a.sent, Last: a.reply()}
}
