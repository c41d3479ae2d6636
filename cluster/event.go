package cluster

import (
	"math"

	"quorum/api"
)

// Which replica an event may name.
const (
	noNode    = iota // its Node is 0
	oneNode          // a replica
	someNodes        // a replica, or -1 for all
)

// Whom an event may name as its client.
const (
	noClient  = iota // its Client is 0
	anyClient        // an address that a client may have
	ownClient        // a client of the setup
)

// use says what an event's fields may be: whom it may name, and the most that each of the others may be. Of a field that is not used that is none.
type use struct {
	node   int
	client int
	index  int
	count  uint64
	data   int
	tears  int
}

// useOf gives the use of a kind of event.
func useOf(kind api.EventKind) use {
	return [api.EFuse + 1]use{
		api.EDeliver: {index: math.MaxInt},
		api.EDrop:    {index: math.MaxInt},
		api.ECopy:    {index: math.MaxInt},
		api.EForge:   {node: oneNode, client: anyClient, data: api.MaxFrame},
		api.ETick:    {node: someNodes, count: api.MaxTick},
		api.EStep:    {node: oneNode, count: api.MaxActions},
		api.EStop:    {node: oneNode},
		api.ECrash:   {node: oneNode, tears: api.MaxFiles},
		api.ERestart: {node: oneNode},
		api.ESend:    {client: ownClient, data: api.MaxCmd},
		api.EAgain:   {client: ownClient},
		api.ECalm:    {count: api.MaxCalm},
		api.EFuse:    {node: oneNode, count: api.MaxActions, tears: api.MaxFiles},
	}[kind]
}

// eventFault refuses an event that can't be played.
func (c *Cluster) eventFault(e api.Event) error {
	if c.events >= api.MaxEvents {
		return refusal(api.MaxEvents, api.ErrClusterLong)
	}
	if e.Kind < api.EDeliver || e.Kind > api.EFuse {
		return refusal(0, api.ErrClusterEvent)
	}
	if at := c.fieldFault(e); at > 0 {
		return refusal(at, api.ErrClusterEvent)
	}
	return nil
}

// fieldFault tells the number of the first field that may not be so; 0, if there is none.
func (c *Cluster) fieldFault(e api.Event) int {
	u := useOf(e.Kind)
	switch {
	case !c.mayNode(u.node, e.Node):
		return 1
	case !c.mayClient(u.client, e.Client):
		return 2
	case e.Index < 0 || e.Index > u.index:
		return 3
	case e.Count > u.count:
		return 4
	case len(e.Data) > u.data:
		return 5
	case len(e.Tears) > u.tears:
		return 6
	}
	return 0
}

// mayNode tells whether an event may name this node.
func (c *Cluster) mayNode(use, n int) bool {
	switch use {
	case oneNode:
		return c.node(n)
	case someNodes:
		return c.node(n) || n == everybody
	}
	return n == 0
}

// mayClient tells whether an event may name this client.
func (c *Cluster) mayClient(use int, id uint64) bool {
	switch use {
	case anyClient:
		return id >= uint64(api.FirstClient)
	case ownClient:
		return c.client(id) != nil
	}
	return id == 0
}
