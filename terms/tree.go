package terms

import (
	"iter"

	"quorum/api"
)

// tree is a list of nodes that is one, and how they belong together.
type tree struct {
	nodes []api.TermsNode
	ends  []int // of each node: the number of the first one that stands behind all that belongs to it
	above []int // of each node: the number of the one that it belongs to
}

// unfinished is a node of which parts are still to come.
type unfinished struct {
	at   int
	come uint64 // the parts that have
}

// growth is a tree whose nodes come one by one.
type growth struct {
	tree
	open []unfinished // from the TRules down
}

// treeOf looks a list over; where it is no tree the fault tells the wrong place.
func treeOf(nodes []api.TermsNode) (tree, error) {
	var g growth
	for at, n := range nodes {
		if at >= api.MaxTermsNodes || !g.fits(n) {
			return tree{}, refusal(at, api.ErrTermsTree)
		}
		g.take(n)
	}
	if !g.ended() {
		return tree{}, refusal(len(nodes), api.ErrTermsTree)
	}
	return g.tree, nil
}

// ended tells whether the tree has all its nodes.
func (g *growth) ended() bool { return len(g.nodes) > 0 && len(g.open) == 0 }

// fits tells whether a node may be the next one.
func (g *growth) fits(n api.TermsNode) bool {
	if g.ended() || len(g.open) >= api.MaxTermsDepth {
		return false
	}
	s := shapeOf(n.Op)
	return s.place == g.place() && s.least <= n.N && n.N <= s.most && isNamed(n.Name, s.naming)
}

// isNamed tells whether a node may have this name.
func isNamed(name string, how naming) bool {
	if name == "" {
		return how != named
	}
	return how != nameless && isName(name)
}

// place tells what may stand at the place that is next.
func (g *growth) place() byte {
	if len(g.open) == 0 {
		return aText
	}
	u := g.open[len(g.open)-1]
	parts := shapeOf(g.nodes[u.at].Op).parts
	return parts[min(u.come, uint64(len(parts)-1))]
}

// take lays down a node that fits, and closes those whose last part it has ended.
func (g *growth) take(n api.TermsNode) {
	at := len(g.nodes)
	above := 0 // so that all ways up end at the TRules
	if at > 0 {
		above = g.open[len(g.open)-1].at
	}
	g.nodes = append(g.nodes, n)
	g.above = append(g.above, above)
	g.ends = append(g.ends, 0)
	g.open = append(g.open, unfinished{at: at})
	for len(g.open) > 0 {
		last := len(g.open) - 1
		u := g.open[last]
		if u.come < partCount(g.nodes[u.at]) {
			return
		}
		g.ends[u.at] = at + 1
		g.open = g.open[:last]
		if last > 0 {
			g.open[last-1].come++
		}
	}
}

// partCount tells how many parts belong to a node.
func partCount(n api.TermsNode) uint64 {
	switch {
	case n.Op == api.TRules || n.Op == api.TBlock:
		return n.N
	case n.Op == api.TCall && n.N != api.CallShare:
		return 2
	}
	return uint64(len(shapeOf(n.Op).parts))
}

// parts goes through the numbers of the nodes that belong to this one, in order.
func (t *tree) parts(at int) iter.Seq[int] {
	return func(yield func(int) bool) {
		for part := at + 1; part != t.ends[at]; part = t.ends[part] {
			if !yield(part) {
				return
			}
		}
	}
}

// rule gives the first rule for an event, or 0 if there is none.
func (t *tree) rule(event uint64) int {
	for on := range t.parts(0) {
		if t.nodes[on].N == event {
			return on
		}
	}
	return 0
}

// lets goes through the TLets whose names can be seen at a node: those ahead of it in the blocks around it. (As nothing but a block has TLets among its parts, all nodes above are gone through alike.)
func (t *tree) lets(at int) iter.Seq[int] {
	return func(yield func(int) bool) {
		for inner := at; inner != 0; inner = t.above[inner] {
			for part := range t.parts(t.above[inner]) {
				if part == inner {
					break
				}
				if t.nodes[part].Op == api.TLet && !yield(part) {
					return
				}
			}
		}
	}
}

// let gives the TLet of that name that can be seen at a node, or 0 if there is none.
func (t *tree) let(at int, name string) int {
	for l := range t.lets(at) {
		if t.nodes[l].Name == name {
			return l
		}
	}
	return 0
}

// letFault tells why a TLet cannot declare its name where it stands.
func (t *tree) letFault(at int) api.Errno {
	name := t.nodes[at].Name
	if _, is := inputAt(name); is || t.let(at, name) != 0 {
		return api.ErrTermsName
	}
	seen := 0
	for range t.lets(at) {
		seen++
	}
	if seen >= api.MaxTermsNames {
		return api.ErrTermsMany
	}
	return api.OK
}

// loop gives the innermost loop around a node, of that label if one is told, or 0 if there is none.
func (t *tree) loop(at int, label string) int {
	for a := t.above[at]; a != 0; a = t.above[a] {
		if n := t.nodes[a]; n.Op == api.TWhile && (label == "" || n.Name == label) {
			return a
		}
	}
	return 0
}

// labelTaken tells whether a loop has a label that one around it has.
func (t *tree) labelTaken(at int) bool {
	label := t.nodes[at].Name
	return label != "" && t.loop(at, label) != 0
}
