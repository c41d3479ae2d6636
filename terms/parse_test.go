package terms_test

import (
	"slices"
	"strings"
	"testing"

	"quorum/api"
	"quorum/terms"
)

func TestP3_1Long(t *testing.T) {
	whole := "on fund {}"
	parses(t, whole+strings.Repeat(" ", 512-len(whole)), fund(0))
	parses(t, "#"+strings.Repeat("!", 512-len(whole)-2)+"\n"+whole, fund(0))
	noParse(t, whole+strings.Repeat(" ", 513-len(whole)), api.ErrTermsLong, 0)
	noParse(t, strings.Repeat("!", 513), api.ErrTermsLong, 0)
	noParse(t, strings.Repeat("!", 512), api.ErrTermsToken, 0)
	noParse(t, strings.Repeat("a ", 10000), api.ErrTermsLong, 0)
	noParse(t, strings.Repeat(" ", 512), api.ErrTermsSyntax, 512)
	noParse(t, strings.Repeat("é", 257), api.ErrTermsLong, 0)
}

func TestP3_1Syntax(t *testing.T) {
	for _, c := range []struct {
		src string
		at  int
	}{
		{"", 0}, {" ", 1}, {"# x", 3}, {"\n\n", 2}, {"on", 2}, {"on ", 3}, {"on fund", 7}, {"on fund {", 9}, {"on fund { # }", 13}, {"on fund {} on", 13}, {"on fund {} ;", 11}, {"on fund {} }", 11}, {"fund {}", 0}, {"on fund ()", 8},
		{"on pay {}", 3}, {"on a {}", 3}, {"on 0 {}", 3}, {"on {}", 3}, {"on on {}", 3}, {"on fund on", 8},
		{"on fund { ; }", 10}, {"on fund { 1; }", 10}, {"on fund { held; }", 14}, {"on fund { to; }", 10}, {"on fund { else {} }", 10}, {"on fund { { } }", 10},
		{"on fund { let x = 1 }", 20}, {"on fund { let = 1; }", 14}, {"on fund { let to = 1; }", 14}, {"on fund { let 1 = 1; }", 14}, {"on fund { let x == 1; }", 16}, {"on fund { let x = ; }", 18}, {"on fund { let x 1; }", 16}, {"on fund { x = 1; }", 12}, {"on fund { set true = 1; }", 14},
		{"on fund { if { } }", 13}, {"on fund { if a done; }", 15}, {"on fund { if a {} else done; }", 23}, {"on fund { if a {} else {} else {} }", 26}, {"on fund { if a {} else while a {} }", 23}, {"on fund { if a; }", 14},
		{"on fund { while {} }", 16}, {"on fund { while a; }", 17}, {"on fund { a: b: while true {} }", 13}, {"on fund { a: if true {} }", 13}, {"on fund { a while true {} }", 12}, {"on fund { : while true {} }", 10}, {"on fund { on: while true {} }", 10},
		{"on fund { break }", 16}, {"on fund { break 1; }", 16}, {"on fund { break to; }", 16}, {"on fund { break a b; }", 18}, {"on fund { continue if; }", 19}, {"on fund { continue", 18},
		{"on fund { require a; }", 19}, {"on fund { require a, ; }", 21}, {"on fund { require a, 0; }", 21}, {"on fund { require a, 1000; }", 21}, {"on fund { require a, b; }", 21}, {"on fund { require a, 1 + 1; }", 23}, {"on fund { require , 1; }", 18},
		{"on fund { pay 1; }", 15}, {"on fund { pay 1, 2; }", 15}, {"on fund { pay to 2; }", 14}, {"on fund { pay 1 to; }", 18}, {"on fund { pay 1 to 2 }", 21},
		{"on fund { fail 0; }", 15}, {"on fund { fail 1000; }", 15}, {"on fund { fail; }", 14}, {"on fund { fail a; }", 15}, {"on fund { fail 18446744073709551615; }", 15}, {"on fund { fail 1 }", 17}, {"on fund { done }", 15}, {"on fund { done 1; }", 15},
		{"on fund { let y = a < b < c; }", 24}, {"on fund { let y = a == b != c; }", 25}, {"on fund { let y = not a < b >= c; }", 28}, {"on fund { let a = 1 not 2; }", 20}, {"on fund { let a = 1 == not true; }", 23}, {"on fund { let a = 1 + not true; }", 22}, {"on fund { let a = 2 * not true; }", 22}, {"on fund { let a = - 1; }", 18}, {"on fund { let a = 1 + + 1; }", 22}, {"on fund { let a = or b; }", 18}, {"on fund { let a = not; }", 21}, {"on fund { let a = not and b; }", 22}, {"on fund { let a = a b; }", 20}, {"on fund { let a = 1 2; }", 20}, {"on fund { let a = true false; }", 23},
		{"on fund { let a = (1; }", 20}, {"on fund { let a = (); }", 19}, {"on fund { let a = 1); }", 19}, {"on fund { let a = (1, 2); }", 20}, {"on fund { let a = ((1); }", 22},
		{"on fund { let a = min; }", 21}, {"on fund { let a = min 1, 2; }", 22}, {"on fund { let a = min(1); }", 23}, {"on fund { let a = max(1, 2, 3); }", 26}, {"on fund { let a = share(1, 2); }", 28}, {"on fund { let a = share(1, 2, 3, 4); }", 31}, {"on fund { let a = min(); }", 22}, {"on fund { let a = min(, 1); }", 22}, {"on fund { let a = held(1); }", 22},
	} {
		noParse(t, c.src, api.ErrTermsSyntax, c.at)
	}
}

// manyText gives a text whose tree has 256 nodes: 6 times 40, 12, and 4 of the head and done.
func manyText() string {
	return "on fund{" + strings.Repeat("set a=1"+strings.Repeat("+1", 19)+";", 6) + "set a=1+1+1+1+1+1;done;}"
}

func TestP3_1Many(t *testing.T) {
	list := read(t, manyText())
	if len(list) != 256 {
		t.Fatalf("%d nodes", len(list))
	}
	if err := terms.Check(list); !isOneOf(err, api.ErrTermsName) {
		t.Errorf("Check of 256 nodes: %v", err)
	}
	noParse(t, strings.Replace(manyText(), "done;", "done;done;", 1), api.ErrTermsMany, 0)
	noParse(t, strings.Replace(manyText(), "done;", "set a=1;", 1), api.ErrTermsMany, 0)
	noParse(t, strings.Replace(manyText(), "done;", "done;done", 1), api.ErrTermsSyntax, len(manyText())+3)
	noParse(t, "on fund{let a=1"+strings.Repeat("+1", 130)+";}", api.ErrTermsMany, 0)
	noParse(t, "on fund{let a=1"+strings.Repeat("+1", 130)+"}", api.ErrTermsSyntax, 275)
	// too many and too deep at one time
	noParse(t, strings.Replace(manyText(), "=1+", "=1+1+", 1), api.ErrTermsMany, 0)
}

// The depth that each thing takes: at 24 it passes, one more is too deep.
func TestP3_1Deep(t *testing.T) {
	for _, c := range []struct {
		what, ahead, again, inside, behind string
		most                               int
	}{
		{"plusses", "on fund{let a=1", "+1", "", ";}", 19},
		{"times", "on fund{let a=1", "*1", "", ";}", 19},
		{"ors", "on fund{let a=b", " or b", "", ";}", 19},
		{"plusses to the right", "on fund{let a=", "1+(", "1", "", 19},
		{"nots", "on fund{let a=", "not ", "b;}", "", 19},
		{"calls", "on fund{let a=", "min(1,", "1", "", 19},
		{"shares", "on fund{let a=", "share(", "1", "", 19},
		{"ifs", "on fund{", "if a{", "", "", 10},
		{"ifs with a statement", "on fund{", "if a{", "done;", "", 10},
		{"whiles", "on fund{", "while a{", "", "", 10},
		{"else ifs", "on fund{if a{}", "else if a{}", "}", "", 9},
		{"parentheses", "on fund{let a=", "(", "1", "", 100},
	} {
		for n := c.most - 1; n <= c.most+1; n++ {
			src := c.ahead + strings.Repeat(c.again, n) + c.inside
			switch {
			case c.what == "shares":
				src += strings.Repeat(",1,1)", n) + ";}"
			case strings.HasSuffix(c.again, "{"):
				src += strings.Repeat("}", n) + "}"
			case strings.HasSuffix(c.again, "(") || strings.HasPrefix(c.again, "min"):
				src += strings.Repeat(")", n) + ";}"
			default:
				src += c.behind
			}
			_, err := terms.Parse(src)
			if n <= c.most || c.what == "parentheses" {
				isFault(t, c.what, err, api.OK, 0)
			} else {
				noParse(t, src, api.ErrTermsDeep, 0)
			}
		}
	}
}

func TestP3_2Statements(t *testing.T) {
	yes, no := plain(api.TTrue), plain(api.TFalse)
	for _, c := range []struct {
		body string
		n    uint64
		want []api.TermsNode
	}{
		{"", 0, nil},
		{"let x = 1;", 1, []api.TermsNode{node(api.TLet, 0, "x"), num(1)}},
		{"set x = true;", 1, []api.TermsNode{node(api.TSet, 0, "x"), yes}},
		{"if true {}", 1, []api.TermsNode{plain(api.TIf), yes, block(0), block(0)}},
		{"if true {} else {}", 1, []api.TermsNode{plain(api.TIf), yes, block(0), block(0)}},
		{"if true { done; } else { fail 1; done; }", 1, []api.TermsNode{plain(api.TIf), yes, block(1), plain(api.TDone), block(2), node(api.TFail, 1, ""), plain(api.TDone)}},
		{"if true {} else if false {}", 1, []api.TermsNode{plain(api.TIf), yes, block(0), block(1), plain(api.TIf), no, block(0), block(0)}},
		{"if true {} else { if false {} }", 1, []api.TermsNode{plain(api.TIf), yes, block(0), block(1), plain(api.TIf), no, block(0), block(0)}},
		{"if true {} else if false {} else { done; }", 1, []api.TermsNode{plain(api.TIf), yes, block(0), block(1), plain(api.TIf), no, block(0), block(1), plain(api.TDone)}},
		{"if true { if false {} else { done; } }", 1, []api.TermsNode{plain(api.TIf), yes, block(1), plain(api.TIf), no, block(0), block(1), plain(api.TDone), block(0)}},
		{"if true {} done;", 2, []api.TermsNode{plain(api.TIf), yes, block(0), block(0), plain(api.TDone)}},
		{"while false { }", 1, []api.TermsNode{plain(api.TWhile), no, block(0)}},
		{"o: while a { break; break o; continue; continue o; }", 1, []api.TermsNode{node(api.TWhile, 0, "o"), named("a"), block(4), plain(api.TBreak), node(api.TBreak, 0, "o"), plain(api.TContinue), node(api.TContinue, 0, "o")}},
		{"require a, 1; require b, 999;", 2, []api.TermsNode{node(api.TRequire, 1, ""), named("a"), node(api.TRequire, 999, ""), named("b")}},
		{"pay 1 to seller;", 1, []api.TermsNode{plain(api.TPay), num(1), named("seller")}},
		{"fail 999; done; fail 1;", 3, []api.TermsNode{node(api.TFail, 999, ""), plain(api.TDone), node(api.TFail, 1, "")}},
		{"break; continue x;", 2, []api.TermsNode{plain(api.TBreak), node(api.TContinue, 0, "x")}},
		{"let a=1;let a=a;set b=held;", 3, []api.TermsNode{node(api.TLet, 0, "a"), num(1), node(api.TLet, 0, "a"), named("a"), node(api.TSet, 0, "b"), named("held")}},
	} {
		parses(t, "on fund {"+c.body+"}", fund(c.n, c.want...))
	}
}

func TestP3_2Rules(t *testing.T) {
	words := strings.Fields("fund release dispute arbitrate refund expire")
	want := []api.TermsNode{node(api.TRules, 6, "")}
	var src strings.Builder
	for i, w := range words {
		src.WriteString("on " + w + "{}")
		want = append(want, node(api.TOn, uint64(i), ""), block(0))
	}
	parses(t, src.String(), want)
	parses(t, "on fund{}on fund{done;}", []api.TermsNode{node(api.TRules, 2, ""), plain(api.TOn), block(0), plain(api.TOn), block(1), plain(api.TDone)})
	list := read(t, strings.Repeat("on fund{}", 56))
	if len(list) != 113 || list[0].N != 56 {
		t.Errorf("56 rules: %d nodes, the first %v", len(list), list[0])
	}
}

func TestP3_2Expressions(t *testing.T) {
	a, b, c, d := named("a"), named("b"), named("c"), named("d")
	not := plain(api.TNot)
	type nodes = []api.TermsNode
	for _, k := range []struct {
		expr string
		want nodes
	}{
		{"a", nodes{a}}, {"((a))", nodes{a}}, {"true", nodes{plain(api.TTrue)}}, {"false", nodes{plain(api.TFalse)}}, {"not a", nodes{not, a}}, {"not not a", nodes{not, not, a}},
		{"a - b - c", nodes{bin(9), bin(9), a, b, c}}, {"a - (b - c)", nodes{bin(9), a, bin(9), b, c}}, {"(a - b) - c", nodes{bin(9), bin(9), a, b, c}},
		{"a / b / c", nodes{bin(11), bin(11), a, b, c}}, {"a % b * c / d", nodes{bin(11), bin(10), bin(12), a, b, c, d}}, {"a + b * c - d", nodes{bin(9), bin(8), a, bin(10), b, c, d}}, {"a * b + c", nodes{bin(8), bin(10), a, b, c}}, {"a * (b + c)", nodes{bin(10), a, bin(8), b, c}}, {"(a + b) * c", nodes{bin(10), bin(8), a, b, c}},
		{"a or b or c", nodes{bin(0), bin(0), a, b, c}}, {"a or (b or c)", nodes{bin(0), a, bin(0), b, c}}, {"a and b and c", nodes{bin(1), bin(1), a, b, c}}, {"a or b and c", nodes{bin(0), a, bin(1), b, c}}, {"a and b or c", nodes{bin(0), bin(1), a, b, c}}, {"(a or b) and c", nodes{bin(1), bin(0), a, b, c}}, {"a and (b or c)", nodes{bin(1), a, bin(0), b, c}}, {"a and b or c and d", nodes{bin(0), bin(1), a, b, bin(1), c, d}},
		{"not a or b", nodes{bin(0), not, a, b}}, {"not a and b", nodes{bin(1), not, a, b}}, {"a and not b", nodes{bin(1), a, not, b}}, {"a or not b", nodes{bin(0), a, not, b}}, {"not a == b", nodes{not, bin(2), a, b}}, {"(not a) == b", nodes{bin(2), not, a, b}}, {"not (a or b)", nodes{not, bin(0), a, b}}, {"a and not b == c or d", nodes{bin(0), bin(1), a, not, bin(2), b, c, d}},
		{"a == b", nodes{bin(2), a, b}}, {"a != b", nodes{bin(3), a, b}}, {"a < b", nodes{bin(4), a, b}}, {"a <= b", nodes{bin(5), a, b}}, {"a > b", nodes{bin(6), a, b}}, {"a >= b", nodes{bin(7), a, b}}, {"a + b", nodes{bin(8), a, b}}, {"a - b", nodes{bin(9), a, b}}, {"a * b", nodes{bin(10), a, b}}, {"a / b", nodes{bin(11), a, b}}, {"a % b", nodes{bin(12), a, b}},
		{"a < b and c > d", nodes{bin(1), bin(4), a, b, bin(6), c, d}}, {"a + b < c - d", nodes{bin(4), bin(8), a, b, bin(9), c, d}}, {"(a < b) == (c < d)", nodes{bin(2), bin(4), a, b, bin(4), c, d}}, {"(a < b) + c", nodes{bin(8), bin(4), a, b, c}}, {"a == b * c", nodes{bin(2), a, bin(10), b, c}},
		{"min(a, b)", nodes{node(api.TCall, 0, ""), a, b}}, {"max(a, b)", nodes{node(api.TCall, 1, ""), a, b}}, {"share(a, b, c)", nodes{node(api.TCall, 2, ""), a, b, c}}, {"min(a or b, not c)", nodes{node(api.TCall, 0, ""), bin(0), a, b, not, c}}, {"min(a, b) * c", nodes{bin(10), node(api.TCall, 0, ""), a, b, c}}, {"a - share(1, 2, 3)", nodes{bin(9), a, node(api.TCall, 2, ""), num(1), num(2), num(3)}}, {"max(min(a, b), c)", nodes{node(api.TCall, 1, ""), node(api.TCall, 0, ""), a, b, c}},
		{"true == 1 + false", nodes{bin(2), plain(api.TTrue), bin(8), num(1), plain(api.TFalse)}},
	} {
		parses(t, "on fund{let a="+k.expr+";}", letTree(k.want...))
	}
}

// What one call answers is its own: no later one changes it, and changing it changes nothing.
func TestP3_2OwnMemory(t *testing.T) {
	src := "on fund { let a = 1 + 2; }"
	first := read(t, src)
	kept := slices.Clone(first)
	second := read(t, src)
	clear(second)
	second = append(second, plain(api.TDone))
	if !slices.Equal(first, kept) {
		t.Errorf("a second tree has changed the first: %v", first)
	}
	parses(t, src, kept)
}
