package ballot

import (
	"iter"

	"quorum/api"
)

// setSize is how many numbers a set has room for.
const setSize = 32

// With gives the set and the node in it (P9.7).
func With(s api.NodeSet, node int) api.NodeSet { return s | alone(node) }

// Has tells whether the node is in the set (P9.7).
func Has(s api.NodeSet, node int) bool { return s&alone(node) != 0 }

// alone gives the set of one node; a number that no set has room for is in none.
func alone(node int) api.NodeSet {
	if node < 0 || node >= setSize {
		return 0
	}
	return 1 << node
}

// Count tells how many are in the set (P9.7).
func Count(s api.NodeSet) int {
	n := 0
	for range Members(s) {
		n++
	}
	return n
}

// Cross tells the least node that is in both sets, or -1 (P9.7).
func Cross(a, b api.NodeSet) int {
	for node := range Members(a & b) {
		return node
	}
	return -1
}

// Members gives the nodes of a set to range over, rising (P9.7).
func Members(s api.NodeSet) iter.Seq[int] {
	return func(yield func(int) bool) {
		if yield == nil {
			return
		}
		for node := range setSize {
			if Has(s, node) && !yield(node) {
				return
			}
		}
	}
}

// Majority tells whether enough replicas are in the set (P9.7).
func (g *Group) Majority(s api.NodeSet) bool {
	return g.made() && Count(s&g.All()) >= g.Quorum()
}

// All gives the set of all replicas (P9.7).
func (g *Group) All() api.NodeSet { return 1<<g.Nodes() - 1 }
