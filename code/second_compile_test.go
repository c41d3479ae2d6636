package code_test

import (
	"quorum/api"
)

// A second, plainer compiler: a tree of nodes with their parts; code as a list of cells of which some are labels, whose places are counted once all of it is there.

// grown is a node with its parts.
type grown struct {
	api.TermsNode
	parts []*grown
}

// regrown builds the nodes of a list that is a tree.
func regrown(list []api.TermsNode) *grown {
	next := 0
	var build func() *grown
	build = func() *grown {
		g := &grown{TermsNode: list[next]}
		next++
		for range partCount(g.TermsNode) {
			g.parts = append(g.parts, build())
		}
		return g
	}
	return build()
}

func partCount(n api.TermsNode) uint64 {
	switch n.Op {
	case api.TRules, api.TBlock:
		return n.N
	case api.TOn, api.TLet, api.TSet, api.TRequire, api.TNot:
		return 1
	case api.TWhile, api.TPay, api.TBin:
		return 2
	case api.TIf:
		return 3
	case api.TCall:
		return [...]uint64{2, 2, 3}[n.N]
	}
	return 0
}

// cell is an instruction, whose Arg may be a label's place; or a label, which has none.
type cell struct {
	word  string
	arg   int
	to    *cell
	place int
}

type namedSlot struct {
	name string
	slot int
}

// around is a loop around a statement: its label, and where its test and its end are.
type around struct {
	label       string
	test, after *cell
}

type plainCompiler struct {
	consts []uint64
	slots  []int
}

func do(word string) []*cell { return []*cell{{word: word}} }

func with1(word string, arg int) []*cell { return []*cell{{word: word, arg: arg}} }

func to(word string, label *cell) []*cell { return []*cell{{word: word, to: label}} }

func join(lists ...[]*cell) []*cell {
	var out []*cell
	for _, l := range lists {
		out = append(out, l...)
	}
	return out
}

func (c *plainCompiler) constant(n uint64) []*cell {
	for i, k := range c.consts {
		if k == n {
			return with1("num", i)
		}
	}
	c.consts = append(c.consts, n)
	return with1("num", len(c.consts)-1)
}

func find(seen []namedSlot, name string) int {
	for _, s := range seen {
		if s.name == name {
			return s.slot
		}
	}
	return -1
}

func inputPlace(name string) int {
	for i, w := range inputWords {
		if w == name {
			return i
		}
	}
	return -1
}

// kind tells whether an expression is a truth (1) or a number (0).
func (c *plainCompiler) kind(g *grown, seen []namedSlot) int {
	switch g.Op {
	case api.TTrue, api.TFalse, api.TNot:
		return 1
	case api.TBin:
		if g.N < api.BinAdd {
			return 1
		}
	case api.TVar:
		if i := find(seen, g.Name); i >= 0 {
			return c.slots[i]
		}
		if g.Name == "disputed" {
			return 1
		}
	}
	return 0
}

func (c *plainCompiler) expression(g *grown, seen []namedSlot) []*cell {
	switch g.Op {
	case api.TNum:
		return c.constant(g.N)
	case api.TTrue:
		return do("true")
	case api.TFalse:
		return do("false")
	case api.TVar:
		for n, party := range []string{"buyer", "seller", "arbiter"} {
			if party == g.Name {
				return c.constant(uint64(n + 1))
			}
		}
		if i := inputPlace(g.Name); i >= 0 {
			return with1("env", i)
		}
		return with1("get", find(seen, g.Name))
	case api.TBin:
		if g.N == api.BinOr || g.N == api.BinAnd {
			after := &cell{}
			left := c.expression(g.parts[0], seen)
			right := c.expression(g.parts[1], seen)
			return join(left, to([]string{"skipyes", "skipnot"}[g.N], after), right, []*cell{after})
		}
	}
	var all []*cell
	for _, p := range g.parts {
		all = append(all, c.expression(p, seen)...)
	}
	word := "not"
	if g.Op == api.TCall {
		word = []string{"min", "max", "share"}[g.N]
	}
	if g.Op == api.TBin {
		word = []string{"", "", "eq", "ne", "lt", "le", "gt", "ge", "add", "sub", "mul", "div", "mod"}[g.N]
		if g.N <= api.BinNe && c.kind(g.parts[0], seen) == 1 {
			word += "b"
		}
	}
	return join(all, do(word))
}

func (c *plainCompiler) block(g *grown, seen []namedSlot, loops []around) []*cell {
	var all []*cell
	for _, s := range g.parts {
		all = append(all, do("tick")...)
		if s.Op == api.TLet {
			e := c.expression(s.parts[0], seen)
			c.slots = append(c.slots, c.kind(s.parts[0], seen))
			slot := len(c.slots) - 1
			seen = append(append([]namedSlot(nil), seen...), namedSlot{s.Name, slot})
			all = append(all, join(e, with1("put", slot))...)
			continue
		}
		all = append(all, c.statement(s, seen, loops)...)
	}
	return all
}

// statement gives the code behind the tick of a statement that is no TLet.
func (c *plainCompiler) statement(g *grown, seen []namedSlot, loops []around) []*cell {
	after, other := &cell{}, &cell{}
	switch g.Op {
	case api.TSet:
		return join(c.expression(g.parts[0], seen), with1("put", find(seen, g.Name)))
	case api.TIf:
		test := c.expression(g.parts[0], seen)
		first := c.block(g.parts[1], seen, loops)
		second := c.block(g.parts[2], seen, loops)
		if len(second) == 0 {
			return join(test, to("jumpnot", after), first, []*cell{after})
		}
		return join(test, to("jumpnot", other), first, to("jump", after), []*cell{other}, second, []*cell{after})
	case api.TWhile:
		inside := append(append([]around(nil), loops...), around{g.Name, other, after})
		test := c.expression(g.parts[0], seen)
		return join([]*cell{other}, do("tick"), test, to("jumpnot", after), c.block(g.parts[1], seen, inside), to("jump", other), []*cell{after})
	case api.TBreak, api.TContinue:
		for i := len(loops) - 1; ; i-- {
			if g.Name != "" && loops[i].label != g.Name {
				continue
			}
			if g.Op == api.TBreak {
				return to("jump", loops[i].after)
			}
			return to("jump", loops[i].test)
		}
	case api.TRequire:
		return join(c.expression(g.parts[0], seen), with1("require", int(g.N)))
	case api.TPay:
		amount := c.expression(g.parts[0], seen)
		return join(amount, c.expression(g.parts[1], seen), do("pay"))
	case api.TFail:
		return with1("fail", int(g.N))
	}
	return do("done")
}

// plainCompile gives the program that the document asks of checked terms.
func plainCompile(list []api.TermsNode) api.Program {
	var c plainCompiler
	p := api.Program{Entry: nowhere}
	var all []*cell
	var begins [6]*cell
	for _, on := range regrown(list).parts {
		begins[on.N] = &cell{}
		all = join(all, []*cell{begins[on.N]}, c.block(on.parts[0], nil, nil), do("done"))
	}
	next := 0
	for _, x := range all {
		x.place = next
		if x.word != "" {
			next++
		}
	}
	for _, x := range all {
		if x.word == "" {
			continue
		}
		i := asm(x.word)[0]
		i.Arg = x.arg
		if x.to != nil {
			i.Arg = x.to.place
		}
		p.Ins = append(p.Ins, i)
	}
	for e, begin := range begins {
		if begin != nil {
			p.Entry[e] = begin.place
		}
	}
	p.Consts, p.Slots = c.consts, c.slots
	return p
}
