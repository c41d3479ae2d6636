package terms

import (
	"strconv"
	"strings"

	"quorum/api"
)

// Print writes a tree in the one layout (P3.3).
func Print(t []api.TermsNode) (string, error) {
	whole, err := treeOf(t)
	if err != nil {
		return "", err
	}
	p := printer{tree: whole}
	p.rules()
	if p.out.Len() > api.MaxTerms {
		return "", refusal(0, api.ErrTermsLong)
	}
	return p.out.String(), nil
}

// printer writes a tree out.
type printer struct {
	tree
	out  strings.Builder
	tabs int // the blocks that are written around what is next
}

// put writes texts one behind the other.
func (p *printer) put(texts ...string) {
	for _, t := range texts {
		p.out.WriteString(t)
	}
}

func (p *printer) rules() {
	for on := range p.parts(0) {
		p.put("on ", events[p.nodes[on].N], " ")
		p.block(on + 1)
		p.put("\n")
	}
}

func (p *printer) block(at int) {
	p.put("{\n")
	p.tabs++
	for part := range p.parts(at) {
		p.indent()
		p.statement(part)
		p.put("\n")
	}
	p.tabs--
	p.indent()
	p.put("}")
}

func (p *printer) indent() { p.put(strings.Repeat("\t", p.tabs)) }

func (p *printer) statement(at int) {
	n := p.nodes[at]
	switch n.Op {
	case api.TLet:
		p.assignment("let ", at)
	case api.TSet:
		p.assignment("set ", at)
	case api.TIf:
		p.choice(at)
	case api.TWhile:
		p.loop(at)
	case api.TBreak:
		p.leap("break", n.Name)
	case api.TContinue:
		p.leap("continue", n.Name)
	case api.TRequire:
		p.put("require ")
		p.expression(at+1, bindsOr)
		p.put(", ", decimal(n.N), ";")
	case api.TPay:
		p.put("pay ")
		p.expression(at+1, bindsOr)
		p.put(" to ")
		p.expression(p.ends[at+1], bindsOr)
		p.put(";")
	case api.TFail:
		p.put("fail ", decimal(n.N), ";")
	case api.TDone:
		p.put("done;")
	}
}

func (p *printer) assignment(word string, at int) {
	p.put(word, p.nodes[at].Name, " = ")
	p.expression(at+1, bindsOr)
	p.put(";")
}

// choice writes an if. As an else without statements and a single if behind else are written in one way only, the tree can be read back from the text.
func (p *printer) choice(at int) {
	yes := p.ends[at+1]
	no := p.ends[yes]
	p.put("if ")
	p.expression(at+1, bindsOr)
	p.put(" ")
	p.block(yes)
	switch {
	case p.nodes[no].N == 0:
	case p.nodes[no].N == 1 && p.nodes[no+1].Op == api.TIf:
		p.put(" else ")
		p.choice(no + 1)
	default:
		p.put(" else ")
		p.block(no)
	}
}

func (p *printer) loop(at int) {
	if label := p.nodes[at].Name; label != "" {
		p.put(label, ": ")
	}
	p.put("while ")
	p.expression(at+1, bindsOr)
	p.put(" ")
	p.block(p.ends[at+1])
}

func (p *printer) leap(word, label string) {
	p.put(word)
	if label != "" {
		p.put(" ", label)
	}
	p.put(";")
}

// expression writes an expression for a place that wants it to bind at least so strongly.
func (p *printer) expression(at, wanted int) {
	if binds(p.nodes[at]) >= wanted {
		p.bare(at)
		return
	}
	p.put("(")
	p.bare(at)
	p.put(")")
}

// binds tells how strongly an expression binds, by its first node.
func binds(n api.TermsNode) int {
	switch n.Op {
	case api.TBin:
		return operators[n.N].binds
	case api.TNot:
		return bindsNot
	}
	return bindsPrimary
}

// bare writes an expression without parentheses around it.
func (p *printer) bare(at int) {
	n := p.nodes[at]
	switch n.Op {
	case api.TNum:
		p.put(decimal(n.N))
	case api.TTrue:
		p.put("true")
	case api.TFalse:
		p.put("false")
	case api.TVar:
		p.put(n.Name)
	case api.TNot:
		p.put("not ")
		p.expression(at+1, bindsNot)
	case api.TBin:
		o := operators[n.N]
		p.expression(at+1, o.left)
		p.put(" ", o.word, " ")
		p.expression(p.ends[at+1], o.right)
	case api.TCall:
		p.call(at)
	}
}

func (p *printer) call(at int) {
	ahead := "("
	p.put(calls[p.nodes[at].N])
	for part := range p.parts(at) {
		p.put(ahead)
		p.expression(part, bindsOr)
		ahead = ", "
	}
	p.put(")")
}

func decimal(n uint64) string { return strconv.FormatUint(n, 10) }
