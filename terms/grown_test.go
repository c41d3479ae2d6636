package terms_test

import (
	"strings"

	"quorum/api"
)

// grown is a tree as the tests build and walk it: each node with its parts. at is its number in the list.
type grown struct {
	api.TermsNode
	at    int
	parts []*grown
}

// list gives the nodes in prefix order.
func (g *grown) list() []api.TermsNode {
	out := []api.TermsNode{g.TermsNode}
	for _, p := range g.parts {
		out = append(out, p.list()...)
	}
	return out
}

// depth gives the greatest depth, if this node has that one.
func (g *grown) depth(own int) int {
	deepest := own
	for _, p := range g.parts {
		deepest = max(deepest, p.depth(own+1))
	}
	return deepest
}

func (g *grown) isExpression() bool { return g.Op >= api.TNum }

// wanted tells how many parts a node has.
func wanted(n api.TermsNode) uint64 {
	switch n.Op {
	case api.TRules, api.TBlock:
		return n.N
	case api.TOn, api.TLet, api.TSet, api.TRequire, api.TNot:
		return 1
	case api.TWhile, api.TPay, api.TBin:
		return 2
	case api.TIf:
		return 3
	case api.TCall:
		return [...]uint64{2, 2, 3}[n.N]
	}
	return 0
}

// regrown builds the nodes of a list that is a tree.
func regrown(list []api.TermsNode) *grown {
	next := 0
	var build func() *grown
	build = func() *grown {
		g := &grown{TermsNode: list[next], at: next}
		next++
		for range wanted(g.TermsNode) {
			g.parts = append(g.parts, build())
		}
		return g
	}
	return build()
}

// grower makes trees. free: the names, kinds and labels are any; else they are such that Check lets them pass.
type grower struct {
	*dice
	free   bool
	wordy  bool              // most statements are lets
	room   int               // nodes that may still come
	vars   []map[string]bool // of each block around: the names, and whether they are truths
	loops  []string          // the labels around
	always map[string]bool   // the inputs, and whether they are truths
	labels map[string]int    // how often each label is around
}

var (
	someNames  = []string{"a", "b", "c1", "total", "abcdefghijkl", "x", "y", "z0", "ona", "e", "f"}
	someLabels = []string{"", "", "o", "p", "held", "a"}
	truths     = map[string]bool{"disputed": true}
	inputNames = strings.Fields("buyer seller arbiter caller amount held now opened due asked disputed")
)

func newGrower(d *dice, free bool, room int) *grower {
	g := &grower{dice: d, free: free, room: room, labels: map[string]int{}}
	g.always = map[string]bool{}
	for _, n := range inputNames {
		g.always[n] = truths[n]
	}
	return g
}

// node makes a node, which takes room.
func (g *grower) node(op api.TermsOp, n uint64, name string, parts ...*grown) *grown {
	return &grown{TermsNode: api.TermsNode{Op: op, N: n, Name: name}, parts: parts}
}

// rules makes a whole tree.
func (g *grower) rules() *grown {
	events := []uint64{0, 1, 2, 3, 4, 5}
	for i := range events {
		j := g.below(i + 1)
		events[i], events[j] = events[j], events[i]
	}
	n := 1 + g.below(3)
	if g.wordy {
		n = 1
	}
	top := g.node(api.TRules, uint64(n), "")
	for _, e := range events[:n] {
		if g.free {
			e = uint64(g.below(6))
		}
		top.parts = append(top.parts, g.node(api.TOn, e, "", g.block(3, g.below(7))))
	}
	return top
}

// block makes a block at that depth.
func (g *grower) block(depth, n int) *grown {
	g.vars = append(g.vars, map[string]bool{})
	b := g.node(api.TBlock, 0, "")
	if g.wordy {
		n *= 4
	}
	for range n {
		if g.room <= 0 || depth > 20 {
			break
		}
		b.parts = append(b.parts, g.statement(depth+1))
	}
	b.N = uint64(len(b.parts))
	g.vars = g.vars[:len(g.vars)-1]
	return b
}

func (g *grower) statement(depth int) *grown {
	g.room -= 3
	if g.wordy && g.below(6) > 0 {
		return g.newName()
	}
	switch g.below(16) {
	case 0, 1, 2:
		return g.let(depth)
	case 3, 4, 5:
		return g.set(depth)
	case 6, 7:
		e := g.node(api.TIf, 0, "", g.expression(depth+1, true))
		e.parts = append(e.parts, g.block(depth+1, g.below(4)), g.block(depth+1, g.below(3)))
		return e
	case 8, 9, 10:
		return g.loop(depth)
	case 11, 12:
		return g.leap()
	case 13:
		return g.node(api.TRequire, uint64(1+g.below(999)), "", g.expression(depth+1, true))
	case 14:
		if g.below(4) == 0 {
			return g.node(api.TFail, uint64(1+g.below(999)), "")
		}
		if g.below(4) == 0 {
			return g.node(api.TDone, 0, "")
		}
	}
	return g.node(api.TPay, 0, "", g.expression(depth+1, false), g.party(depth+1))
}

// party makes an expression that is mostly a party's number.
func (g *grower) party(depth int) *grown {
	if g.below(5) == 0 {
		return g.expression(depth, false)
	}
	return g.node(api.TVar, 0, one(g.dice, inputNames[:4]))
}

// seen gives the names of lets that can be seen, of either kind.
func (g *grower) seen() map[string]bool {
	all := map[string]bool{}
	for _, b := range g.vars {
		for n, k := range b {
			all[n] = k
		}
	}
	return all
}

func (g *grower) let(depth int) *grown {
	name := one(g.dice, someNames)
	if g.free && g.below(12) == 0 {
		name = one(g.dice, inputNames)
	}
	seen := g.seen()
	_, taken := seen[name]
	if (taken || len(seen) >= api.MaxTermsNames) && !(g.free && g.below(6) == 0) {
		return g.set(depth)
	}
	isTruth := g.below(3) == 0
	e := g.node(api.TLet, 0, name, g.expression(depth+1, isTruth))
	g.vars[len(g.vars)-1][name] = isTruth
	return e
}

// newName makes a let of a name that can't be seen yet, however many there are if the tree is free.
func (g *grower) newName() *grown {
	seen := g.seen()
	for _, name := range someNames {
		if _, taken := seen[name]; !taken && (g.free || len(seen) < api.MaxTermsNames) {
			g.vars[len(g.vars)-1][name] = false
			return g.node(api.TLet, 0, name, g.node(api.TNum, uint64(g.below(9)), ""))
		}
	}
	return g.node(api.TPay, 0, "", g.node(api.TNum, 1, ""), g.node(api.TNum, 1, ""))
}

func (g *grower) set(depth int) *grown {
	var names []string
	seen := g.seen()
	for _, n := range someNames {
		if _, is := seen[n]; is || g.free && g.below(12) == 0 {
			names = append(names, n)
		}
	}
	if len(names) == 0 {
		return g.node(api.TRequire, 7, "", g.expression(depth+1, true))
	}
	name := one(g.dice, names)
	return g.node(api.TSet, 0, name, g.expression(depth+1, seen[name]))
}

func (g *grower) loop(depth int) *grown {
	label := one(g.dice, someLabels)
	if label != "" && g.labels[label] > 0 && !(g.free && g.below(4) == 0) {
		label = ""
	}
	w := g.node(api.TWhile, 0, label, g.expression(depth+1, true))
	g.loops = append(g.loops, label)
	g.labels[label]++
	w.parts = append(w.parts, g.block(depth+1, 1+g.below(4)))
	g.labels[label]--
	g.loops = g.loops[:len(g.loops)-1]
	return w
}

func (g *grower) leap() *grown {
	op := one(g.dice, []api.TermsOp{api.TBreak, api.TContinue})
	if g.free && g.below(8) == 0 {
		return g.node(op, 0, one(g.dice, someLabels))
	}
	if len(g.loops) == 0 {
		return g.node(api.TPay, 0, "", g.node(api.TNum, uint64(g.below(4)), ""), g.node(api.TNum, 2, ""))
	}
	label := ""
	if g.below(2) == 0 {
		label = one(g.dice, g.loops)
	}
	return g.node(op, 0, label)
}

// expression makes a truth or a number.
func (g *grower) expression(depth int, isTruth bool) *grown {
	if g.free && g.below(25) == 0 {
		isTruth = !isTruth
	}
	g.room--
	if depth >= 23 || g.room <= 0 || g.below(5) < 2 {
		return g.leaf(isTruth)
	}
	if isTruth {
		return g.compound(depth)
	}
	return g.sum(depth)
}

func (g *grower) leaf(isTruth bool) *grown {
	var names []string
	if g.below(3) > 0 {
		for _, n := range inputNames {
			if g.always[n] == isTruth {
				names = append(names, n)
			}
		}
		seen := g.seen()
		for _, n := range someNames {
			if k, is := seen[n]; is && k == isTruth {
				names = append(names, n, n)
			}
		}
	}
	if g.free && g.below(25) == 0 {
		names = someNames
	}
	if len(names) > 0 {
		return g.node(api.TVar, 0, one(g.dice, names))
	}
	if isTruth {
		return g.node(one(g.dice, []api.TermsOp{api.TTrue, api.TFalse}), 0, "")
	}
	return g.node(api.TNum, one(g.dice, []uint64{0, 1, 2, 3, 3, 5, 10, 97, 1 << 32, most / 2, most - 1, most}), "")
}

// compound makes a truth that is made of others.
func (g *grower) compound(depth int) *grown {
	switch n := uint64(g.below(10)); n {
	case api.BinOr, api.BinAnd:
		return g.node(api.TBin, n, "", g.expression(depth+1, true), g.expression(depth+1, true))
	case api.BinEq, api.BinNe:
		k := g.below(2) == 0
		return g.node(api.TBin, n, "", g.expression(depth+1, k), g.expression(depth+1, k))
	case 8, 9:
		return g.node(api.TNot, 0, "", g.expression(depth+1, true))
	default:
		return g.node(api.TBin, n, "", g.expression(depth+1, false), g.expression(depth+1, false))
	}
}

// sum makes a number that is made of others.
func (g *grower) sum(depth int) *grown {
	n := uint64(g.below(8))
	if n >= 5 {
		e := g.node(api.TCall, n-5, "")
		for range wanted(e.TermsNode) {
			e.parts = append(e.parts, g.expression(depth+1, false))
		}
		return e
	}
	return g.node(api.TBin, n+api.BinAdd, "", g.expression(depth+1, false), g.expression(depth+1, false))
}

// someTree gives a tree that keeps within the limits.
func someTree(d *dice, free bool, room int) []api.TermsNode {
	for {
		maker := newGrower(d, free, room)
		maker.wordy = d.below(5) == 0
		g := maker.rules()
		list := g.list()
		if len(list) <= api.MaxTermsNodes && g.depth(1) <= api.MaxTermsDepth {
			return list
		}
	}
}
