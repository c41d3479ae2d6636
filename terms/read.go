package terms

import (
	"slices"
	"strings"

	"quorum/api"
)

// Parse reads a text into its tree (P3.1, P3.2).
func Parse(src string) (nodes []api.TermsNode, err error) {
	defer func() {
		if w, gaveUp := recover().(wrong); gaveUp {
			nodes, err = nil, refusal(w.at, w.why)
		}
	}()
	if len(src) > api.MaxTerms {
		panic(wrong{0, api.ErrTermsLong})
	}
	r := reader{tokens: cut(src)}
	r.rules()
	if len(r.nodes) > api.MaxTermsNodes {
		panic(wrong{0, api.ErrTermsMany})
	}
	if _, deep := treeOf(r.nodes); deep != nil { // the grammar gives trees: all that can be wrong is their depth
		panic(wrong{0, api.ErrTermsDeep})
	}
	return r.nodes, nil
}

// reader goes through the tokens by the grammar, and lays down each node ahead of what belongs to it.
type reader struct {
	tokens []token
	next   int
	nodes  []api.TermsNode
}

// now gives the token that is next.
func (r *reader) now() token { return r.tokens[r.next] }

// refuse gives up: the token that is next cannot stand here.
func (r *reader) refuse() { panic(wrong{r.now().at, api.ErrTermsSyntax}) }

// take goes on behind a keyword or a mark, if it is the next token.
func (r *reader) take(text string) bool {
	t := r.now()
	if t.kind != fixedToken || t.text != text {
		return false
	}
	r.next++
	return true
}

// want goes on behind a keyword or a mark that must be here.
func (r *reader) want(text string) {
	if !r.take(text) {
		r.refuse()
	}
}

// name goes on behind a name that must be here.
func (r *reader) name() string {
	t := r.now()
	if t.kind != nameToken {
		r.refuse()
	}
	r.next++
	return strings.Clone(t.text) // a tree does not keep the text that it was read from
}

// nameIfAny goes on behind a name that may be here.
func (r *reader) nameIfAny() string {
	if r.now().kind != nameToken {
		return ""
	}
	return r.name()
}

// code goes on behind a number that must be here, and may be a code.
func (r *reader) code() uint64 {
	t := r.now()
	if t.kind != numberToken || t.num < 1 || t.num > api.MaxTermsFail {
		r.refuse()
	}
	r.next++
	return t.num
}

// add lays a node down and tells its number.
func (r *reader) add(op api.TermsOp, n uint64, name string) int {
	r.nodes = append(r.nodes, api.TermsNode{Op: op, N: n, Name: name})
	return len(r.nodes) - 1
}

func (r *reader) rules() {
	at := r.add(api.TRules, 0, "")
	for r.nodes[at].N == 0 || r.now().kind != endToken {
		r.rule()
		r.nodes[at].N++
	}
}

func (r *reader) rule() {
	r.want("on")
	r.add(api.TOn, r.event(), "")
	r.block()
}

func (r *reader) event() uint64 {
	for n, word := range events {
		if r.take(word) {
			return uint64(n)
		}
	}
	r.refuse()
	return 0
}

func (r *reader) block() {
	r.want("{")
	at := r.add(api.TBlock, 0, "")
	for !r.take("}") {
		r.statement()
		r.nodes[at].N++
	}
}

func (r *reader) statement() {
	switch {
	case r.take("let"):
		r.assignment(api.TLet)
	case r.take("set"):
		r.assignment(api.TSet)
	case r.take("if"):
		r.choice()
	case r.take("break"):
		r.leap(api.TBreak)
	case r.take("continue"):
		r.leap(api.TContinue)
	case r.take("require"):
		r.requirement()
	case r.take("pay"):
		r.payment()
	case r.take("fail"):
		r.add(api.TFail, r.code(), "")
		r.want(";")
	case r.take("done"):
		r.add(api.TDone, 0, "")
		r.want(";")
	default:
		r.loop()
	}
}

func (r *reader) assignment(op api.TermsOp) {
	r.add(op, 0, r.name())
	r.want("=")
	r.expression(bindsOr)
	r.want(";")
}

// choice reads on behind an if.
func (r *reader) choice() {
	r.add(api.TIf, 0, "")
	r.expression(bindsOr)
	r.block()
	switch {
	case !r.take("else"):
		r.add(api.TBlock, 0, "")
	case r.take("if"):
		r.add(api.TBlock, 1, "")
		r.choice()
	default:
		r.block()
	}
}

// loop reads a while with its label. Of all statements it alone may begin with a name.
func (r *reader) loop() {
	label := r.nameIfAny()
	if label != "" {
		r.want(":")
	}
	r.want("while")
	r.add(api.TWhile, 0, label)
	r.expression(bindsOr)
	r.block()
}

// leap reads on behind a break or a continue.
func (r *reader) leap(op api.TermsOp) {
	r.add(op, 0, r.nameIfAny())
	r.want(";")
}

// requirement reads on behind a require. Its code comes last, but belongs to the node that is laid down first.
func (r *reader) requirement() {
	at := r.add(api.TRequire, 0, "")
	r.expression(bindsOr)
	r.want(",")
	r.nodes[at].N = r.code()
	r.want(";")
}

// payment reads on behind a pay.
func (r *reader) payment() {
	r.add(api.TPay, 0, "")
	r.expression(bindsOr)
	r.want("to")
	r.expression(bindsOr)
	r.want(";")
}

// expression reads as far as all binds at least so strongly. That an operator stands between its two sides is seen only behind the left one: its node is pushed in ahead of that.
func (r *reader) expression(least int) {
	start := len(r.nodes)
	binds := r.operand(least)
	for {
		n, is := r.operator()
		if !is || operators[n].binds < least || binds < operators[n].left {
			return
		}
		r.next++
		r.nodes = slices.Insert(r.nodes, start, api.TermsNode{Op: api.TBin, N: uint64(n)})
		r.expression(operators[n].right)
		binds = operators[n].binds
	}
}

// operator gives the number of the operator that is next, if one is.
func (r *reader) operator() (int, bool) {
	t := r.now()
	for n, o := range operators {
		if t.kind == fixedToken && t.text == o.word {
			return n, true
		}
	}
	return 0, false
}

// operand reads a primary or, where it may bind so weakly, a not; and tells how strongly that binds.
func (r *reader) operand(least int) int {
	t := r.now()
	switch {
	case t.kind == numberToken:
		r.next++
		r.add(api.TNum, t.num, "")
	case t.kind == nameToken:
		r.add(api.TVar, 0, r.name())
	case r.take("true"):
		r.add(api.TTrue, 0, "")
	case r.take("false"):
		r.add(api.TFalse, 0, "")
	case r.take("("):
		r.expression(bindsOr)
		r.want(")")
	case least <= bindsNot && r.take("not"):
		r.add(api.TNot, 0, "")
		r.expression(bindsNot)
		return bindsNot
	default:
		r.call()
	}
	return bindsPrimary
}

// call reads one of the functions and its operands.
func (r *reader) call() {
	for n, word := range calls {
		if !r.take(word) {
			continue
		}
		at := r.add(api.TCall, uint64(n), "")
		wanted := partCount(r.nodes[at])
		r.want("(")
		r.expression(bindsOr)
		for range wanted - 1 {
			r.want(",")
			r.expression(bindsOr)
		}
		r.want(")")
		return
	}
	r.refuse()
}
