package code_test

import (
	"slices"
	"strings"

	"quorum/api"
)

// planter makes trees that Check lets pass, node by node in prefix order.
type planter struct {
	*dice
	list  []api.TermsNode
	room  int
	seen  []seenName
	loops []string
}

type seenName struct {
	name    string
	isTruth bool
}

var (
	someNames  = strings.Fields("a b c1 total abcdefghijkl x y z0 ona e f")
	someLabels = []string{"", "", "o", "p", "held", "a"}
	numbersIn  = strings.Fields("buyer seller arbiter caller amount held now opened due asked")
)

// someTree gives a tree of about so many nodes that keeps within the limits.
func someTree(d *dice, room int) []api.TermsNode {
	for {
		g := &planter{dice: d, room: room}
		events := []uint64{0, 1, 2, 3, 4, 5}
		for i := range events {
			j := d.below(i + 1)
			events[i], events[j] = events[j], events[i]
		}
		n := 1 + d.below(3)
		g.node(api.TRules, uint64(n), "")
		for _, e := range events[:n] {
			g.node(api.TOn, e, "")
			g.block(3, d.below(8))
		}
		if len(g.list) <= api.MaxTermsNodes {
			return g.list
		}
	}
}

func (g *planter) node(op api.TermsOp, n uint64, name string) {
	g.list = append(g.list, api.TermsNode{Op: op, N: n, Name: name})
	g.room--
}

func (g *planter) block(depth, n int) {
	at, around := len(g.list), len(g.seen)
	g.node(api.TBlock, 0, "")
	for ; n > 0 && g.room > 0 && depth < 21; n-- {
		g.statement(depth + 1)
		g.list[at].N++
	}
	g.seen = g.seen[:around]
}

func (g *planter) statement(depth int) {
	switch g.below(16) {
	case 0, 1, 2:
		g.let(depth)
	case 3, 4, 5:
		g.set(depth)
	case 6, 7:
		g.node(api.TIf, 0, "")
		g.truth(depth + 1)
		g.block(depth+1, g.below(4))
		g.block(depth+1, g.below(4)-1)
	case 8, 9, 10:
		g.loop(depth)
	case 11, 12:
		g.leap(depth)
	case 13:
		g.require(depth)
	case 14:
		if g.below(3) == 0 {
			g.node(api.TFail, uint64(1+g.below(999)), "")
		} else if g.below(3) == 0 {
			g.node(api.TDone, 0, "")
		} else {
			g.pay(depth)
		}
	default:
		g.pay(depth)
	}
}

func (g *planter) require(depth int) {
	g.node(api.TRequire, uint64(1+g.below(999)), "")
	g.truth(depth + 1)
}

func (g *planter) pay(depth int) {
	g.node(api.TPay, 0, "")
	g.number(depth + 1)
	if g.below(5) == 0 {
		g.number(depth + 1)
	} else {
		g.node(api.TVar, 0, one(g.dice, numbersIn[:4]))
	}
}

func (g *planter) isSeen(name string) bool {
	return slices.ContainsFunc(g.seen, func(s seenName) bool { return s.name == name })
}

func (g *planter) let(depth int) {
	name := one(g.dice, someNames)
	if g.isSeen(name) || len(g.seen) >= api.MaxTermsNames {
		g.set(depth)
		return
	}
	isTruth := g.below(3) == 0
	g.node(api.TLet, 0, name)
	g.expression(depth+1, isTruth)
	g.seen = append(g.seen, seenName{name, isTruth})
}

func (g *planter) set(depth int) {
	if len(g.seen) == 0 {
		g.require(depth)
		return
	}
	s := one(g.dice, g.seen)
	g.node(api.TSet, 0, s.name)
	g.expression(depth+1, s.isTruth)
}

func (g *planter) loop(depth int) {
	label := one(g.dice, someLabels)
	if slices.Contains(g.loops, label) {
		label = ""
	}
	g.node(api.TWhile, 0, label)
	g.truth(depth + 1)
	g.loops = append(g.loops, label)
	g.block(depth+1, 1+g.below(4))
	g.loops = g.loops[:len(g.loops)-1]
}

func (g *planter) leap(depth int) {
	if len(g.loops) == 0 {
		g.pay(depth)
		return
	}
	label := ""
	if g.below(2) == 0 {
		label = one(g.dice, g.loops)
	}
	g.node(one(g.dice, []api.TermsOp{api.TBreak, api.TContinue}), 0, label)
}

func (g *planter) expression(depth int, isTruth bool) {
	if isTruth {
		g.truth(depth)
	} else {
		g.number(depth)
	}
}

func (g *planter) truth(depth int) {
	if depth >= 23 || g.room <= 0 || g.below(5) < 2 {
		g.leaf(true)
		return
	}
	n := uint64(g.below(10))
	if n >= 8 {
		g.node(api.TNot, 0, "")
		g.truth(depth + 1)
		return
	}
	sides := n < api.BinEq || n <= api.BinNe && g.below(2) == 0
	g.node(api.TBin, n, "")
	g.expression(depth+1, sides)
	g.expression(depth+1, sides)
}

func (g *planter) number(depth int) {
	if depth >= 23 || g.room <= 0 || g.below(5) < 2 {
		g.leaf(false)
		return
	}
	n := uint64(g.below(8))
	if n >= 5 {
		g.node(api.TCall, n-5, "")
		if n-5 == api.CallShare {
			g.number(depth + 1)
		}
	} else {
		g.node(api.TBin, n+api.BinAdd, "")
	}
	g.number(depth + 1)
	g.number(depth + 1)
}

func (g *planter) leaf(isTruth bool) {
	names := []string{"disputed"}
	if !isTruth {
		names = slices.Clone(numbersIn)
	}
	for _, s := range g.seen {
		if s.isTruth == isTruth {
			names = append(names, s.name, s.name, s.name)
		}
	}
	switch {
	case g.below(3) > 0:
		g.node(api.TVar, 0, one(g.dice, names))
	case isTruth:
		g.node(one(g.dice, []api.TermsOp{api.TTrue, api.TFalse}), 0, "")
	default:
		g.node(api.TNum, g.dice.number(), "")
	}
}
