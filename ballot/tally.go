package ballot

import "quorum/api"

// Tally counts, for each key, which replicas have spoken for it.
type Tally[K comparable] struct {
	group Group
	sets  map[K]api.NodeSet // nil if NewTally did not make the tally
}

// NewTally gives an empty tally (P9.9).
func NewTally[K comparable](g *Group) *Tally[K] {
	if !g.made() {
		return nil
	}
	return &Tally[K]{group: *g, sets: make(map[K]api.NodeSet)}
}

// made tells whether NewTally made the tally.
func (t *Tally[K]) made() bool { return t != nil && t.sets != nil }

// Speak counts a replica for a key, and tells how many there are now (P9.9).
func (t *Tally[K]) Speak(k K, node int) (int, api.Errno) {
	if !t.made() {
		return 0, api.ErrZero
	}
	set, known := t.sets[k]
	switch {
	case !t.group.Node(node):
		return 0, api.ErrBallotNode
	case !known && len(t.sets) >= api.MaxTally:
		return 0, api.ErrBallotFull
	}
	set = With(set, node)
	t.sets[k] = set
	return Count(set), api.OK
}

// Nodes tells who has spoken for a key (P9.9).
func (t *Tally[K]) Nodes(k K) api.NodeSet {
	if !t.made() {
		return 0
	}
	return t.sets[k]
}

// Reached tells whether a majority has spoken for a key (P9.9).
func (t *Tally[K]) Reached(k K) bool {
	return t.made() && t.group.Majority(t.sets[k])
}

// Drop forgets a key (P9.9).
func (t *Tally[K]) Drop(k K) {
	if t.made() {
		delete(t.sets, k)
	}
}

// Len tells how many keys there are (P9.9).
func (t *Tally[K]) Len() int {
	if !t.made() {
		return 0
	}
	return len(t.sets)
}
