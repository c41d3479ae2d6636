package ballot

import "quorum/api"

// Group is a configuration that has been looked over.
type Group struct {
	config api.Config // its F is 0 if New did not make the group
}

// bounds says between which numbers a field of a configuration may be, both included.
type bounds struct{ value, least, most uint64 }

// New looks a configuration over (P9.1).
func New(c api.Config) (*Group, error) {
	for at, b := range fields(c) {
		if b.value < b.least || b.value > b.most {
			return nil, refusal(at, api.ErrBallotConfig)
		}
	}
	return &Group{config: c}, nil
}

// fields gives a configuration's fields in the order in which they are looked over. A number below 0 is far above every bound as a uint64, so it is refused like any that is too high.
func fields(c api.Config) [10]bounds {
	return [10]bounds{
		{uint64(c.F), 1, api.MaxF},
		{uint64(c.MaxBatch), 1, api.MaxReqs},
		{c.Delay, 0, 1000},
		{c.Window, 1, api.MaxWindow},
		{c.Every, 1, c.Window},
		{c.Beat, 1, 1000},
		{c.Epoch, 1, 10000},
		{c.EpochMax, c.Epoch, 100000},
		{c.MaxNum, 1, api.MaxBallots},
		{c.MaxSlot, 1, api.MaxSlots},
	}
}

// made tells whether New made the group.
func (g *Group) made() bool { return g != nil && g.config.F > 0 }

// Config tells the configuration (P9.2).
func (g *Group) Config() api.Config {
	if !g.made() {
		return api.Config{}
	}
	return g.config
}

// Nodes tells how many replicas there are (P9.2).
func (g *Group) Nodes() int {
	if !g.made() {
		return 0
	}
	return 2*g.config.F + 1
}

// many is Nodes to reckon with among ranks.
func (g *Group) many() uint64 { return uint64(g.Nodes()) }

// Quorum tells how many are a majority (P9.2).
func (g *Group) Quorum() int {
	if !g.made() {
		return 0
	}
	return g.config.F + 1
}

// Node tells whether there is a replica of that number (P9.2).
func (g *Group) Node(n int) bool { return n >= 0 && n < g.Nodes() }

// High tells the first slot behind the window (P9.6).
func (g *Group) High(low uint64) uint64 {
	if !g.made() {
		return 0
	}
	return Add(low, g.config.Window, g.config.MaxSlot)
}

// Inside tells whether a slot is in the window (P9.6).
func (g *Group) Inside(low, slot uint64) bool { return slot >= low && slot < g.High(low) }
