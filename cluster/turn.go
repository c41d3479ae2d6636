package cluster

import (
	"slices"

	"quorum/api"
)

// everybody is the Node of a tick of all clocks.
const everybody = -1

// turn is an event while it is played: the hosts are at work, and what is seen is gathered.
type turn struct {
	*Cluster
	*crew
	calm bool // nothing is lost for want of room
	seen []api.Seen
}

// plays gives at each kind of event the method that plays it.
func plays() [api.EFuse + 1]func(*turn, api.Event) {
	return [api.EFuse + 1]func(*turn, api.Event){
		api.EDeliver: (*turn).deliver,
		api.EDrop:    (*turn).drop,
		api.ECopy:    (*turn).double,
		api.EForge:   (*turn).forge,
		api.ETick:    (*turn).tick,
		api.EStep:    (*turn).step,
		api.EStop:    (*turn).stop,
		api.ECrash:   (*turn).crash,
		api.ERestart: (*turn).restart,
		api.ESend:    (*turn).send,
		api.EAgain:   (*turn).again,
		api.ECalm:    (*turn).rounds,
		api.EFuse:    (*turn).fuse,
	}
}

// tell gathers what was seen; what was sent is in flight then.
func (t *turn) tell(list []api.Seen) {
	for _, s := range list {
		t.seen = append(t.seen, s)
		if s.Kind == api.SSent {
			t.put(api.Packet{From: s.From, To: s.To, Data: copied(s.Data)})
		}
	}
}

// one lets one host do a task.
func (t *turn) one(node int, do task) {
	t.give(node, do)
	t.tell(t.back(node))
}

// each lets all hosts do the tasks that they are given, side by side; what is seen is told in the replicas' order.
func (t *turn) each(given func(node int) task) {
	for n := range t.hosts {
		t.give(n, given(n))
	}
	for n := range t.hosts {
		t.tell(t.back(n))
	}
}

// put puts a packet into the flight; it is lost if there is no room.
func (t *turn) put(p api.Packet) {
	if t.calm || len(t.flight) < api.MaxFlight {
		t.flight = append(t.flight, p)
	}
}

// take takes the packet at a place out of the flight, if there is one.
func (t *turn) take(at int) (api.Packet, bool) {
	if at >= len(t.flight) {
		return api.Packet{}, false
	}
	p := t.flight[at]
	t.flight = slices.Delete(t.flight, at, at+1)
	return p, true
}

func (t *turn) drop(e api.Event) { t.take(e.Index) }

func (t *turn) double(e api.Event) {
	if e.Index < len(t.flight) {
		t.put(t.flight[e.Index]) // nobody writes into a packet's bytes: the two may share them
	}
}

func (t *turn) forge(e api.Event) {
	t.put(api.Packet{From: api.Addr(e.Client), To: api.Addr(e.Node), Data: copied(e.Data)})
}

// deliver lets a packet arrive: at a replica in its inbox, if there is room, or at a client.
func (t *turn) deliver(e api.Event) {
	p, is := t.take(e.Index)
	switch {
	case !is:
	case !t.isNode(p.To):
		t.hand(p)
	default:
		t.one(int(p.To), func(h *host) []api.Seen {
			if len(h.inbox) < api.MaxInbox {
				h.arrive(p)
			}
			return nil
		})
	}
}

// isNode tells whether an address is a replica's.
func (t *turn) isNode(a api.Addr) bool { return a < api.Addr(len(t.hosts)) }

// hand gives a packet to a client of the setup; from anybody but a replica, or for anybody else, it is lost.
func (t *turn) hand(p api.Packet) {
	if a := t.client(uint64(p.To)); a != nil && t.isNode(p.From) {
		t.tell(a.take(p.Data))
	}
}

// tick lets one host's clock go on, or all clocks.
func (t *turn) tick(e api.Event) {
	do := func(h *host) []api.Seen { return h.tick(e.Count) }
	if e.Node != everybody {
		t.one(e.Node, do)
		return
	}
	t.each(func(int) task { return do })
	t.tickClients(e.Count)
}

func (t *turn) tickClients(count uint64) {
	for _, a := range t.clients {
		a.clock = later(a.clock, count)
	}
}

func (t *turn) step(e api.Event) {
	t.one(e.Node, func(h *host) []api.Seen { return h.steps(int(e.Count)) })
}

func (t *turn) stop(e api.Event) { t.one(e.Node, (*host).stop) }

func (t *turn) crash(e api.Event) {
	t.one(e.Node, func(h *host) []api.Seen { return h.crash(e.Tears) })
}

func (t *turn) restart(e api.Event) { t.one(e.Node, (*host).restart) }

func (t *turn) fuse(e api.Event) {
	tears := slices.Clone(e.Tears)
	t.one(e.Node, func(h *host) []api.Seen { return h.fuse(int(e.Count), tears) })
}

// send lets a client begin a request.
func (t *turn) send(e api.Event) {
	a := t.client(e.Client)
	t.tell(a.begin(e.Data))
	t.tell(a.ask(len(t.hosts)))
}

// again lets a client that waits ask again.
func (t *turn) again(e api.Event) {
	if a := t.client(e.Client); a.waits {
		t.tell(a.ask(len(t.hosts)))
	}
}

// rounds plays calm rounds.
func (t *turn) rounds(e api.Event) {
	t.calm = true
	for range e.Count {
		t.round()
	}
}

// round plays a calm round. A host's clock and inbox are its own, so it does its whole part of the round in one task.
func (t *turn) round() {
	t.tickClients(1)
	for _, a := range t.clients {
		if a.late() {
			t.tell(a.ask(len(t.hosts)))
		}
	}
	mail := t.empty()
	t.each(func(node int) task {
		return func(h *host) []api.Seen { return h.round(mail[node]) }
	})
}

// empty lets all packets in flight leave it: clients take theirs, those for the replicas are told by replica.
func (t *turn) empty() [][]api.Packet {
	mail := make([][]api.Packet, len(t.hosts))
	all := t.flight
	t.flight = nil
	for _, p := range all {
		if t.isNode(p.To) {
			mail[p.To] = append(mail[p.To], p)
		} else {
			t.hand(p)
		}
	}
	return mail
}
