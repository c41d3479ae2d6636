package cluster

import (
	"errors"

	"quorum/api"
	"quorum/replica"
	"quorum/wal"
	"quorum/wire"
)

// errDown is an action's answer when the log has refused what must be durable.
var errDown = errors.New("cluster: the replica has gone down")

// host is a machine of the cluster: a replica and its log while it is up, and what outlives them.
type host struct {
	*replica.Replica // nil unless it is up
	*wal.Log         // nil unless it is up
	config           api.Config
	self             int
	accounts         []api.Account // all hosts have this list, and none changes it
	how              int
	clock            uint64
	disk             *wal.Disk
	tears            []api.WalTear // what the disk will keep when it dies
	inbox            []api.Packet
}

// newHost gives a host whose replica is up, on a new disk.
func newHost(c api.Config, self int, accounts []api.Account) (*host, error) {
	h := &host{config: c, self: self, accounts: accounts, disk: wal.NewDisk()}
	return h, h.boot()
}

// boot begins the replica from what the disk has kept; if a layer below refuses the host stays as it was.
func (h *host) boot() error {
	log, bodies, err := wal.Open(h.disk)
	if err != nil {
		return err
	}
	var recs []api.Record
	for _, body := range bodies {
		rec, err := wire.DecodeRecord(body)
		if err != nil {
			return err
		}
		recs = append(recs, rec)
	}
	r, err := replica.Recover(h.config, h.self, h.accounts, recs, h.clock)
	if err != nil {
		return err
	}
	h.Replica, h.Log, h.how = r, log, api.NodeUp
	return nil
}

// seen tells something of this host.
func (h *host) seen(kind api.SeenKind, slot uint64) []api.Seen {
	return []api.Seen{{Kind: kind, Node: h.self, Slot: slot}}
}

// arrive takes a packet, if the replica is up.
func (h *host) arrive(p api.Packet) {
	if h.how == api.NodeUp {
		h.inbox = append(h.inbox, p)
	}
}

// steps takes so many actions, or as many until the replica goes down.
func (h *host) steps(count int) []api.Seen {
	if h.how != api.NodeUp {
		return nil
	}
	var list []api.Seen
	for range count {
		var err error
		list, err = h.act(list)
		if errors.Is(err, errDown) {
			return append(list, h.crash(h.tears)...)
		}
	}
	return list
}

// act takes an action: what it answers is made durable, and only then sent. What is seen of it is added to the list.
func (h *host) act(list []api.Seen) ([]api.Seen, error) {
	in := api.ReplicaIn{Now: h.clock}
	if h.Action() == api.ActPacket {
		in.Src, in.Msg, in.Has = h.packet()
	}
	out := h.Act(in)
	switch {
	case out.Ran:
		list = append(list, api.Seen{Kind: api.SRan, Node: h.self, Slot: out.Slot, Batch: out.Batch})
	case out.Installed:
		list = append(list, h.seen(api.SInstall, out.Slot)...)
	}
	if h.keep(out) != nil {
		return list, errDown
	}
	for _, s := range out.Sends {
		list = addSent(list, api.Addr(h.self), s)
	}
	return list, nil
}

// packet takes packets out of the inbox until one fits; those that do not are lost.
func (h *host) packet() (api.Addr, api.Msg, bool) {
	for len(h.inbox) > 0 {
		p := h.inbox[0]
		h.inbox = h.inbox[1:]
		if m, err := wire.DecodeMsg(p.Data); err == nil && h.fits(p.From, m.Kind) {
			return p.From, m, true
		}
	}
	return 0, api.Msg{}, false
}

// fits tells whether a message of that kind may come from that address.
func (h *host) fits(from api.Addr, kind api.Kind) bool {
	if kind == api.KRequest {
		return from >= api.FirstClient
	}
	return kind >= api.KPrepare && from < api.Addr(h.Nodes())
}

// keep makes an answer's base or records durable.
func (h *host) keep(out api.ReplicaOut) error {
	list, err := bodies(append(out.Base, out.Recs...)) // one of the two is empty
	switch {
	case err != nil || len(list) == 0:
		return err
	case len(out.Base) > 0:
		return h.Rotate(list)
	}
	for _, body := range list {
		if _, err := h.Append(body); err != nil {
			return err
		}
	}
	return h.Sync()
}

// bodies gives records as they lie in a log.
func bodies(recs []api.Record) ([][]byte, error) {
	var list [][]byte
	for _, r := range recs {
		body, err := wire.EncodeRecord(r)
		if err != nil {
			return nil, err
		}
		list = append(list, body)
	}
	return list, nil
}

// leave ends the replica's life; what waits in its inbox is lost.
func (h *host) leave(how int) []api.Seen {
	was := h.how
	h.Replica, h.Log, h.inbox, h.how = nil, nil, nil, how
	if was != api.NodeUp {
		return nil
	}
	return h.seen(api.SDown, 0)
}

// stop stops the replica for good.
func (h *host) stop() []api.Seen { return h.leave(api.NodeStopped) }

// crash takes a replica that is up down; its disk keeps what these tears say.
func (h *host) crash(tears []api.WalTear) []api.Seen {
	if h.how != api.NodeUp {
		return nil
	}
	h.disk.Crash(tears)
	return h.leave(api.NodeCrashed)
}

// restart begins a crashed replica again from its disk. Where that fails the disk has crashed once more.
func (h *host) restart() []api.Seen {
	if h.how != api.NodeCrashed {
		return nil
	}
	if h.boot() != nil {
		h.disk.Crash(h.tears)
		return nil
	}
	return h.seen(api.SUp, h.State().Machine.Slot)
}

// fuse sets how many writes the disk still takes, and what it will keep then.
func (h *host) fuse(writes int, tears []api.WalTear) []api.Seen {
	if h.how != api.NodeStopped {
		h.disk.Fuse(writes)
		h.tears = tears
	}
	return nil
}

// tick lets the clock go on.
func (h *host) tick(count uint64) []api.Seen {
	h.clock = later(h.clock, count)
	return nil
}

// round is the host's part of a calm round: a tick, its mail, and ten actions for each packet, or ten if there is none.
func (h *host) round(mail []api.Packet) []api.Seen {
	h.tick(1)
	for _, p := range mail {
		h.arrive(p)
	}
	return h.steps(api.Actions * max(len(h.inbox), 1))
}

// look tells how the replica is; of one that is not up there is not more than its clock.
func (h *host) look() api.NodeLook {
	look := api.NodeLook{How: h.how, Clock: h.clock}
	if h.how == api.NodeUp {
		s := h.State()
		look.Inbox = len(h.inbox)
		look.Slot, look.View, look.Low, look.Mark, look.Machine = s.Machine.Slot, s.Election.View, s.Acceptor.Low, s.Mark, s.Machine
	}
	return look
}
