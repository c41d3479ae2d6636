package terms_test

import (
	"slices"
	"strings"
	"testing"

	"quorum/api"
	"quorum/terms"
)

// prints wants Print to answer that text.
func prints(t *testing.T, list []api.TermsNode, want string) {
	t.Helper()
	got, err := terms.Print(list)
	if err != nil || got != want {
		t.Errorf("Print(%v) = %q, %v, want %q", list, got, err, want)
	}
}

func TestP3_3Statements(t *testing.T) {
	for _, c := range []struct{ body, want string }{
		{"", ""},
		{"let x=1;", "\tlet x = 1;\n"}, {"set x=1;", "\tset x = 1;\n"},
		{"if a{}", "\tif a {\n\t}\n"}, {"if a{}else{}", "\tif a {\n\t}\n"}, {"if a{done;}else{}", "\tif a {\n\t\tdone;\n\t}\n"},
		{"if a{}else{done;}", "\tif a {\n\t} else {\n\t\tdone;\n\t}\n"},
		{"if a{}else{done;done;}", "\tif a {\n\t} else {\n\t\tdone;\n\t\tdone;\n\t}\n"},
		{"if a{}else{if b{}}", "\tif a {\n\t} else if b {\n\t}\n"},
		{"if a{}else{if b{}else{done;}}", "\tif a {\n\t} else if b {\n\t} else {\n\t\tdone;\n\t}\n"},
		{"if a{}else if b{}else if c{if d{}}", "\tif a {\n\t} else if b {\n\t} else if c {\n\t\tif d {\n\t\t}\n\t}\n"},
		{"if a{}else{if b{}done;}", "\tif a {\n\t} else {\n\t\tif b {\n\t\t}\n\t\tdone;\n\t}\n"},
		{"if a{}else{done;if b{}}", "\tif a {\n\t} else {\n\t\tdone;\n\t\tif b {\n\t\t}\n\t}\n"},
		{"if a{}else{while b{}}", "\tif a {\n\t} else {\n\t\twhile b {\n\t\t}\n\t}\n"},
		{"if a{if b{}else if c{done;}}", "\tif a {\n\t\tif b {\n\t\t} else if c {\n\t\t\tdone;\n\t\t}\n\t}\n"},
		{"while a{}", "\twhile a {\n\t}\n"}, {"x:while a{break;break x;continue;continue x;}", "\tx: while a {\n\t\tbreak;\n\t\tbreak x;\n\t\tcontinue;\n\t\tcontinue x;\n\t}\n"},
		{"require a,7;", "\trequire a, 7;\n"}, {"pay a to b;", "\tpay a to b;\n"}, {"fail 999;", "\tfail 999;\n"}, {"done;done;", "\tdone;\n\tdone;\n"},
		{"pay(a or b)to(not c);", "\tpay a or b to not c;\n"}, {"pay 1 to(a or b);", "\tpay 1 to a or b;\n"}, {"let x=(a or b);", "\tlet x = a or b;\n"}, {"require(a or b),1;", "\trequire a or b, 1;\n"}, {"while(a or b){}", "\twhile a or b {\n\t}\n"}, {"if(a or b){}", "\tif a or b {\n\t}\n"}, {"set x=(a or b);", "\tset x = a or b;\n"},
	} {
		prints(t, onFund(t, c.body), "on fund {\n"+c.want+"}\n")
	}
	prints(t, read(t, "on expire{}on fund{done;}on release{}on dispute{}on arbitrate{}on refund{}"), "on expire {\n}\non fund {\n\tdone;\n}\non release {\n}\non dispute {\n}\non arbitrate {\n}\non refund {\n}\n")
}

// Every operator in every place of every other, and of not and the calls: parentheses by the numbers that the document tells.
func TestP3_3Parentheses(t *testing.T) {
	words := strings.Fields("or and == != < <= > >= + - * / %")
	binds := []int{1, 2, 4, 4, 4, 4, 4, 4, 5, 5, 6, 6, 6}
	left := []int{1, 2, 5, 5, 5, 5, 5, 5, 5, 5, 6, 6, 6}
	right := []int{2, 3, 5, 5, 5, 5, 5, 5, 6, 6, 7, 7, 7}
	around := func(text string, is, wants int) string {
		if is < wants {
			return "(" + text + ")"
		}
		return text
	}
	type operand struct {
		nodes []api.TermsNode
		text  string
		binds int
	}
	operands := []operand{
		{[]api.TermsNode{plain(api.TNot), named("x")}, "not x", 3},
		{[]api.TermsNode{named("x")}, "x", 7}, {[]api.TermsNode{num(most)}, "18446744073709551615", 7}, {[]api.TermsNode{plain(api.TTrue)}, "true", 7}, {[]api.TermsNode{plain(api.TFalse)}, "false", 7},
		{[]api.TermsNode{node(api.TCall, 0, ""), named("x"), num(0)}, "min(x, 0)", 7}, {[]api.TermsNode{node(api.TCall, 1, ""), named("x"), num(0)}, "max(x, 0)", 7}, {[]api.TermsNode{node(api.TCall, 2, ""), num(1), num(2), num(3)}, "share(1, 2, 3)", 7},
	}
	for op, w := range words {
		operands = append(operands, operand{[]api.TermsNode{bin(uint64(op)), named("x"), named("y")}, "x " + w + " y", binds[op]})
	}
	a := named("a")
	for _, o := range operands {
		want := func(text string, nodes ...api.TermsNode) {
			t.Helper()
			prints(t, letTree(nodes...), "on fund {\n\tlet a = "+text+";\n}\n")
		}
		for op, w := range words {
			n := bin(uint64(op))
			want(around(o.text, o.binds, left[op])+" "+w+" a", slices.Concat([]api.TermsNode{n}, o.nodes, []api.TermsNode{a})...)
			want("a "+w+" "+around(o.text, o.binds, right[op]), slices.Concat([]api.TermsNode{n, a}, o.nodes)...)
		}
		want("not "+around(o.text, o.binds, 3), slices.Concat([]api.TermsNode{plain(api.TNot)}, o.nodes)...)
		want(o.text, o.nodes...)
		want("min("+o.text+", a)", slices.Concat([]api.TermsNode{node(api.TCall, 0, "")}, o.nodes, []api.TermsNode{a})...)
		want("share(a, "+o.text+", a)", slices.Concat([]api.TermsNode{node(api.TCall, 2, ""), a}, o.nodes, []api.TermsNode{a})...)
		want("share(a, a, "+o.text+")", slices.Concat([]api.TermsNode{node(api.TCall, 2, ""), a, a}, o.nodes)...)
	}
}

func TestP3_3Long(t *testing.T) {
	dones := func(n int) []api.TermsNode {
		return fund(uint64(n), slices.Repeat([]api.TermsNode{plain(api.TDone)}, n)...)
	}
	refused := func(list []api.TermsNode) {
		t.Helper()
		text, err := terms.Print(list)
		if text != "" {
			t.Errorf("a text beside the fault: %q", text)
		}
		isFault(t, "Print", err, api.ErrTermsLong, 0)
	}
	// "on fund {\n", "}\n": 12 bytes; a done has 7; "\tlet a = 1;\n": 12 bytes, and one for each digit or letter more
	exact := func(digits uint64) []api.TermsNode {
		list := dones(69)
		list[2].N = 70
		return append(list, node(api.TLet, 0, "abcdef"), num(digits))
	}
	text, err := terms.Print(exact(1))
	if err != nil || len(text) != 512 {
		t.Errorf("a text of 512 bytes: %d, %v", len(text), err)
	}
	if back, err := terms.Parse(text); err != nil || !slices.Equal(back, exact(1)) {
		t.Errorf("a text of 512 bytes does not come back: %v, %v", back, err)
	}
	refused(exact(10))
	refused(dones(72))
	refused(dones(253))
	if text, err := terms.Print(dones(71)); err != nil || len(text) != 509 {
		t.Errorf("a text of 509 bytes: %d, %v", len(text), err)
	}
}

// A text that fits only without its blanks can be read, but its tree has no layout of 512 bytes.
func TestP3_3LongOfParse(t *testing.T) {
	list := read(t, "on fund{"+strings.Repeat("done;", 100)+"}")
	text, err := terms.Print(list)
	if text != "" {
		t.Errorf("a text beside the fault: %q", text)
	}
	isFault(t, "Print", err, api.ErrTermsLong, 0)
}

// laidOut lays a text's words out by the words alone.
func laidOut(texts []string) string {
	var b strings.Builder
	tabs, fresh, glued := 0, true, false
	for i, w := range texts {
		if w == "}" {
			tabs--
		}
		switch {
		case fresh:
			b.WriteString(strings.Repeat("\t", tabs))
		case glued || slices.Contains([]string{")", ",", ";", ":"}, w) || w == "(" && slices.Contains([]string{"min", "max", "share"}, texts[i-1]):
		default:
			b.WriteString(" ")
		}
		b.WriteString(w)
		glued = w == "("
		fresh = w == "{" || w == ";" || w == "}" && !(i+1 < len(texts) && texts[i+1] == "else")
		if w == "{" {
			tabs++
		}
		if fresh {
			b.WriteString("\n")
		}
	}
	return b.String()
}

// someTexts plays a test on the texts of many trees.
func someTexts(t *testing.T, seed uint64, rounds int, free bool, play func(list []api.TermsNode, text string)) {
	t.Helper()
	d := &dice{seed}
	played := 0
	for range rounds {
		list := someTree(d, free, 25+d.below(40))
		text, err := terms.Print(list)
		if err != nil {
			isFault(t, "Print of a tree", err, api.ErrTermsLong, 0)
			continue
		}
		played++
		play(list, text)
	}
	if played < rounds/4 {
		t.Errorf("only %d of %d trees had a text: the test has lost its aim", played, rounds)
	}
}

func TestP3_3Layout(t *testing.T) {
	someTexts(t, 5, 3000, true, func(list []api.TermsNode, text string) {
		if want := laidOut(wordsOf(text)); text != want {
			t.Errorf("Print gives %q, want the layout %q", text, want)
		}
	})
}

// No pair of parentheses but a call's can be left out.
func TestP3_3ParenthesesNeeded(t *testing.T) {
	pairs := 0
	someTexts(t, 6, 2000, true, func(list []api.TermsNode, text string) {
		words := wordsOf(text)
		for i, w := range words {
			if w != "(" || slices.Contains([]string{"min", "max", "share"}, words[i-1]) {
				continue
			}
			close, depth := i, 0
			for ; ; close++ {
				if words[close] == "(" {
					depth++
				}
				if words[close] == ")" {
					depth--
				}
				if depth == 0 {
					break
				}
			}
			pairs++
			without := slices.Concat(words[:i], words[i+1:close], words[close+1:])
			if back, err := terms.Parse(laidOut(without)); err == nil && slices.Equal(back, list) {
				t.Errorf("in %q the parentheses at word %d are not needed", text, i)
			}
		}
	})
	if pairs < 500 {
		t.Errorf("only %d pairs: the test has lost its aim", pairs)
	}
}

func TestP3_4Back(t *testing.T) {
	for _, free := range []bool{true, false} {
		someTexts(t, 8, 3000, free, func(list []api.TermsNode, text string) {
			back, err := terms.Parse(text)
			if err != nil || !slices.Equal(back, list) {
				t.Errorf("Parse(%q) = %v, %v, want %v", text, back, err, list)
			}
			again, err := terms.Print(back)
			if err != nil || again != text {
				t.Errorf("Print(Parse(%q)) = %q, %v", text, again, err)
			}
		})
	}
}

// written writes an expression with parentheses around all, some, or none but the needed of its primaries, whatever they are.
func written(d *dice, g *grown, out []string) []string {
	words := strings.Fields("or and == != < <= > >= + - * / %")
	pairs := 1
	if g.Op != api.TNot && g.Op != api.TBin {
		pairs = d.below(2)
	}
	if d.below(6) == 0 {
		pairs++
	}
	for range pairs {
		out = append(out, "(")
	}
	switch g.Op {
	case api.TNum:
		out = append(out, decimal(g.N))
	case api.TTrue:
		out = append(out, "true")
	case api.TFalse:
		out = append(out, "false")
	case api.TVar:
		out = append(out, g.Name)
	case api.TNot:
		out = written(d, g.parts[0], append(out, "not"))
	case api.TBin:
		out = append(written(d, g.parts[0], out), words[g.N])
		out = written(d, g.parts[1], out)
	case api.TCall:
		out = append(out, [...]string{"min", "max", "share"}[g.N], "(")
		for i, p := range g.parts {
			if i > 0 {
				out = append(out, ",")
			}
			out = written(d, p, out)
		}
		out = append(out, ")")
	}
	for range pairs {
		out = append(out, ")")
	}
	return out
}

// writtenOut writes rules, blocks and statements; an else is left out, written, or drawn together with its if at random where the tree leaves that open.
func writtenOut(d *dice, g *grown, out []string) []string {
	switch g.Op {
	case api.TRules:
		for _, p := range g.parts {
			out = writtenOut(d, p, out)
		}
	case api.TOn:
		out = append(out, "on", strings.Fields("fund release dispute arbitrate refund expire")[g.N])
		out = writtenOut(d, g.parts[0], out)
	case api.TBlock:
		out = append(out, "{")
		for _, p := range g.parts {
			out = writtenOut(d, p, out)
		}
		out = append(out, "}")
	case api.TLet, api.TSet:
		out = append(out, map[api.TermsOp]string{api.TLet: "let", api.TSet: "set"}[g.Op], g.Name, "=")
		out = append(written(d, g.parts[0], out), ";")
	case api.TIf:
		out = writtenOut(d, g.parts[1], written(d, g.parts[0], append(out, "if")))
		no := g.parts[2]
		switch {
		case no.N == 0 && d.below(2) == 0:
		case no.N == 1 && no.parts[0].Op == api.TIf && d.below(2) == 0:
			out = writtenOut(d, no.parts[0], append(out, "else"))
		default:
			out = writtenOut(d, no, append(out, "else"))
		}
	case api.TWhile:
		if g.Name != "" {
			out = append(out, g.Name, ":")
		}
		out = writtenOut(d, g.parts[1], written(d, g.parts[0], append(out, "while")))
	case api.TBreak, api.TContinue:
		out = append(out, map[api.TermsOp]string{api.TBreak: "break", api.TContinue: "continue"}[g.Op])
		if g.Name != "" {
			out = append(out, g.Name)
		}
		out = append(out, ";")
	case api.TRequire:
		out = append(written(d, g.parts[0], append(out, "require")), ",", decimal(g.N), ";")
	case api.TPay:
		out = append(written(d, g.parts[0], append(out, "pay")), "to")
		out = append(written(d, g.parts[1], out), ";")
	case api.TFail:
		out = append(out, "fail", decimal(g.N), ";")
	case api.TDone:
		out = append(out, "done", ";")
	}
	return out
}

// However a tree is written, with what blanks, remarks and parentheses, it is read as the same.
func TestP3_4Blanks(t *testing.T) {
	d := &dice{77}
	gaps := []string{" ", "\n", "\t", "\r", "  ", "#\n", "# !\n", " # on fund {\r\n", "#é\xff\n"}
	played := 0
	for range 6000 {
		list := someTree(d, d.below(2) == 0, 15+d.below(25))
		texts := writtenOut(d, regrown(list), nil)
		var b strings.Builder
		last := byte(' ')
		for _, w := range texts {
			// words and numbers must not run together, nor two marks that fit as one
			need := isRun(last) && isRun(w[0]) || w[0] == '='
			if need || d.below(3) == 0 {
				b.WriteString(one(d, gaps))
			}
			b.WriteString(w)
			last = w[len(w)-1]
		}
		if d.below(2) == 0 {
			b.WriteString(one(d, []string{" ", "\n", "#", "# }", "\r\n"}))
		}
		if src := b.String(); len(src) <= api.MaxTerms {
			played++
			parses(t, src, list)
		}
	}
	if played < 1500 {
		t.Errorf("only %d texts: the test has lost its aim", played)
	}
}

func isRun(c byte) bool { return c >= 'a' && c <= 'z' || c >= '0' && c <= '9' }
