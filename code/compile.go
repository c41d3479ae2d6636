package code

import (
	"slices"

	"quorum/api"
	"quorum/terms"
)

// Compile turns checked terms into a program (P4.1).
func Compile(t []api.TermsNode) (api.Program, error) {
	if err := terms.Check(t); err != nil {
		return api.Program{}, behind(err)
	}
	c := compiler{nodes: t}
	c.rules()
	return c.program, nil
}

// compiler goes through the nodes once, in their order, which is that of the code.
type compiler struct {
	nodes   []api.TermsNode
	next    int
	program api.Program
	seen    []variable // the names that can be seen, the innermost last
	loops   []*loop    // those around, the innermost last
}

// variable is a name that a TLet has declared.
type variable struct {
	name string
	slot int
}

// loop is a TWhile whose end is not reached yet.
type loop struct {
	label string
	test  int
	exits gaps
}

// gaps are instructions that lead to one place which is not known yet: each of these, told the place, fills in its own.
type gaps []func(place int)

// fill tells all of them the place.
func (g gaps) fill(place int) {
	for _, fillIn := range g {
		fillIn(place)
	}
}

// node takes the next node.
func (c *compiler) node() api.TermsNode {
	n := c.nodes[c.next]
	c.next++
	return n
}

// here gives the place of the instruction that comes next.
func (c *compiler) here() int { return len(c.program.Ins) }

// emit lays an instruction down.
func (c *compiler) emit(op api.CodeOp, arg int) {
	c.program.Ins = append(c.program.Ins, api.Ins{Op: op, Arg: arg})
}

// emitGap lays down an instruction that leads to where a list of gaps will.
func (c *compiler) emitGap(op api.CodeOp, g *gaps) {
	at := c.here()
	c.emit(op, 0)
	*g = append(*g, func(place int) { c.program.Ins[at].Arg = place })
}

// emitNumber lays down a CNum; a number that an earlier one lays up has its constant already.
func (c *compiler) emitNumber(n uint64) {
	at := slices.Index(c.program.Consts, n)
	if at < 0 {
		at = len(c.program.Consts)
		c.program.Consts = append(c.program.Consts, n)
	}
	c.emit(api.CNum, at)
}

func (c *compiler) rules() {
	c.program.Entry = [...]int{-1, -1, -1, -1, -1, -1}
	for range c.node().N {
		c.program.Entry[c.node().N] = c.here()
		c.block()
		c.emit(api.CDone, 0)
	}
}

func (c *compiler) block() {
	around := len(c.seen)
	for range c.node().N {
		c.statement()
	}
	c.seen = c.seen[:around]
}

func (c *compiler) statement() {
	n := c.node()
	c.emit(api.CTick, 0)
	switch n.Op {
	case api.TLet:
		c.declare(n.Name)
	case api.TSet:
		c.expression()
		c.emit(api.CPut, c.slot(n.Name))
	case api.TIf:
		c.choose()
	case api.TWhile:
		c.repeat(n.Name)
	case api.TBreak:
		c.emitGap(api.CJump, &c.around(n.Name).exits)
	case api.TContinue:
		c.emit(api.CJump, c.around(n.Name).test)
	case api.TRequire:
		c.expression()
		c.emit(api.CRequire, int(n.N))
	case api.TPay:
		c.expression()
		c.expression()
		c.emit(api.CPay, 0)
	case api.TFail:
		c.emit(api.CFail, int(n.N))
	case api.TDone:
		c.emit(api.CDone, 0)
	}
}

// declare gives a name its slot. In its own expression the name can't be seen yet.
func (c *compiler) declare(name string) {
	kind := c.expression()
	slot := len(c.program.Slots)
	c.program.Slots = append(c.program.Slots, kind)
	c.seen = append(c.seen, variable{name, slot})
	c.emit(api.CPut, slot)
}

// slot gives the slot that a name means here: in checked terms no two that can be seen share one.
func (c *compiler) slot(name string) int {
	at := slices.IndexFunc(c.seen, func(v variable) bool { return v.name == name })
	return c.seen[at].slot
}

// around gives the innermost loop around, or the one of that label.
func (c *compiler) around(label string) *loop {
	at := len(c.loops) - 1
	for label != "" && c.loops[at].label != label {
		at--
	}
	return c.loops[at]
}

func (c *compiler) choose() {
	var no, end gaps
	c.expression()
	c.emitGap(api.CJumpNot, &no)
	c.block()
	if c.nodes[c.next].N > 0 {
		c.emitGap(api.CJump, &end)
	}
	no.fill(c.here())
	c.block()
	end.fill(c.here())
}

func (c *compiler) repeat(label string) {
	l := &loop{label: label, test: c.here()}
	c.emit(api.CTick, 0)
	c.expression()
	c.emitGap(api.CJumpNot, &l.exits)
	c.loops = append(c.loops, l)
	c.block()
	c.loops = c.loops[:len(c.loops)-1]
	c.emit(api.CJump, l.test)
	l.exits.fill(c.here())
}

// expression lays an expression's code down and gives its kind.
func (c *compiler) expression() int {
	n := c.node()
	switch n.Op {
	case api.TNum:
		c.emitNumber(n.N)
		return api.KindNum
	case api.TVar:
		return c.name(n.Name)
	case api.TNot:
		c.expression()
		c.emit(api.CNot, 0)
	case api.TTrue:
		c.emit(api.CTrue, 0)
	case api.TFalse:
		c.emit(api.CFalse, 0)
	case api.TCall:
		return c.call(n.N)
	case api.TBin:
		return c.binary(n.N)
	}
	return api.KindBool
}

func (c *compiler) name(name string) int {
	for i, in := range inputs {
		if in.name == name {
			c.emit(api.CEnv, i)
			return in.kind
		}
	}
	for party, its := range parties {
		if its == name {
			c.emitNumber(uint64(party))
			return api.KindNum
		}
	}
	slot := c.slot(name)
	c.emit(api.CGet, slot)
	return c.program.Slots[slot]
}

func (c *compiler) call(function uint64) int {
	op := calls[function]
	c.expression()
	c.expression()
	if op == api.CShare {
		c.expression()
	}
	c.emit(op, 0)
	return api.KindNum
}

func (c *compiler) binary(operator uint64) int {
	switch operator {
	case api.BinOr:
		return c.either(api.CSkipYes)
	case api.BinAnd:
		return c.either(api.CSkipNot)
	}
	sides := c.expression()
	c.expression()
	c.emit(operators[operator][sides], 0)
	if operator >= api.BinAdd {
		return api.KindNum
	}
	return api.KindBool
}

// either lays down two truths of which the first may settle it alone.
func (c *compiler) either(skip api.CodeOp) int {
	var settled gaps
	c.expression()
	c.emitGap(skip, &settled)
	c.expression()
	settled.fill(c.here())
	return api.KindBool
}
