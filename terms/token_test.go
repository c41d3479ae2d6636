package terms_test

import (
	"math/big"
	"regexp"
	"strings"
	"testing"

	"quorum/api"
	"quorum/terms"
)

// cutter has the rules of tokens as patterns: blanks and remarks, words, runs that begin with a digit, marks with the longer ones first.
var cutter = regexp.MustCompile(`^(?:([\t\n\r ]|#[^\n]*)|([a-z][a-z0-9]*)|([0-9][a-z0-9]*)|(==|!=|<=|>=|[{}(),;:=<>+\-*/%]))`)

// cutByPattern gives a text's words, or the offset of the first thing that is no token.
func cutByPattern(src string) (words []word, bad int) {
	for at := 0; at < len(src); {
		m := cutter.FindStringSubmatch(src[at:])
		if m == nil || len(m[2]) > 12 || m[3] != "" && !isNumber(m[3]) {
			return nil, at
		}
		if m[1] == "" {
			words = append(words, word{m[0], at})
		}
		at += len(m[0])
	}
	return words, -1
}

// isNumber tells whether a run is a number that fits.
func isNumber(run string) bool {
	n, ok := new(big.Int).SetString(run, 10)
	return ok && n.IsUint64() && n.String() == run
}

func TestP3_1Token(t *testing.T) {
	for _, c := range []struct {
		src string
		at  int
	}{
		{"!", 0}, {"on fund { let a = !b; }", 18}, {"! =", 0}, {"on fund {} !", 11},
		{"on on !", 6}, {"} } { @", 6}, {"on fund { let x = 01; }", 18},
		{"on fund { fail 2x; }", 15}, {"on fund { fail 0x10; }", 15}, {"00", 0}, {"007", 0}, {"1a", 0}, {"a 0a", 2}, {"9z9", 0},
		{"18446744073709551616", 0}, {"28446744073709551615", 0}, {"100000000000000000000", 0}, {strings.Repeat("9", 512), 0}, {" " + strings.Repeat("1", 511), 1},
		{"abcdefghijklm", 0}, {"on abcdefghijkl m abcdefghijklm", 18}, {"a23456789012b", 0}, {strings.Repeat("z", 512), 0},
		{"A", 0}, {"aB", 1}, {"1B", 1}, {"on fund { let A = 1; }", 14}, {"a_b", 1}, {"_", 0}, {"é", 0}, {"aé", 1}, {"\xff", 0}, {"on\x00", 2}, {"on\vfund", 2}, {"on\ffund", 2}, {"on\u00a0fund", 2},
		{"\"", 0}, {"'", 0}, {"$", 0}, {"&", 0}, {".", 0}, {"?", 0}, {"[", 0}, {"\\", 0}, {"]", 0}, {"^", 0}, {"`", 0}, {"|", 0}, {"~", 0}, {"\x7f", 0}, {"@", 0},
		{"# !\n!", 4}, {"#\r!\n!", 4}, {"{}(),;:===!=<<=>>=+-*/%!", 23}, {"!!=", 0}, {"=!", 1}, {"<!=!", 3},
		{"on fund {\n\tlet a = 1;\n}\n!", 24}, {"12345678901234567890a", 0},
	} {
		noParse(t, c.src, api.ErrTermsToken, c.at)
	}
}

// Every byte by itself: those of tokens and blanks are let pass, all others are none.
func TestP3_1TokenBytes(t *testing.T) {
	for b := range 256 {
		src := "on " + string([]byte{byte(b)}) + " on"
		if strings.ContainsRune("abcdefghijklmnopqrstuvwxyz0123456789{}(),;:=<>+-*/%#\t\n\r ", rune(b)) && b < 128 {
			_, err := terms.Parse(src)
			at := 3
			if strings.ContainsRune("\t\n\r ", rune(b)) {
				at = 5
			}
			if b == '#' {
				at = len(src)
			}
			isFault(t, "Parse("+src+")", err, api.ErrTermsSyntax, at)
			continue
		}
		noParse(t, src, api.ErrTermsToken, 3)
	}
}

// What the rule of tokens lets pass at its edges.
func TestP3_1TokenEdges(t *testing.T) {
	for _, c := range []struct {
		expr string
		want []api.TermsNode
	}{
		{"0", []api.TermsNode{num(0)}}, {"10", []api.TermsNode{num(10)}}, {"18446744073709551615", []api.TermsNode{num(most)}}, {"9", []api.TermsNode{num(9)}},
		{"abcdefghijkl", []api.TermsNode{named("abcdefghijkl")}}, {"a00000000000", []api.TermsNode{named("a00000000000")}}, {"z", []api.TermsNode{named("z")}}, {"on1", []api.TermsNode{named("on1")}}, {"onn", []api.TermsNode{named("onn")}}, {"o", []api.TermsNode{named("o")}}, {"sharee", []api.TermsNode{named("sharee")}}, {"nota", []api.TermsNode{named("nota")}}, {"buyer", []api.TermsNode{named("buyer")}},
		{"1<=2", []api.TermsNode{bin(api.BinLe), num(1), num(2)}}, {"1>=2", []api.TermsNode{bin(api.BinGe), num(1), num(2)}}, {"1==2", []api.TermsNode{bin(api.BinEq), num(1), num(2)}}, {"1!=2", []api.TermsNode{bin(api.BinNe), num(1), num(2)}},
		{"1# x\n-#y\n2", []api.TermsNode{bin(api.BinSub), num(1), num(2)}}, {"#!\n1", []api.TermsNode{num(1)}}, {"##\n1", []api.TermsNode{num(1)}}, {"\t\r\n 1\t\r\n ", []api.TermsNode{num(1)}}, {"# \xff\x00é \r 2\n1", []api.TermsNode{num(1)}},
	} {
		parses(t, "on fund{let a="+c.expr+";}", letTree(c.want...))
	}
	noParse(t, "on fund{let a=1< =2;}", api.ErrTermsSyntax, 17)
	noParse(t, "on fund{let a=1===2;}", api.ErrTermsSyntax, 17)
	noParse(t, "on fund{let a==1;}", api.ErrTermsSyntax, 13)
	noParse(t, "on fund{let a=1<=>2;}", api.ErrTermsSyntax, 17)
	noParse(t, "onfund{}", api.ErrTermsSyntax, 0)
	parses(t, "on fund{} # } no token: $", fund(0))
}

// Texts of any bytes: what is no token is told where the patterns see it, and nothing else is.
func TestP3_1TokenAny(t *testing.T) {
	d := &dice{31}
	pieces := []string{"on", "fund", "a", "zz9", "0", "1", "12", "01", "9a", "18446744073709551615", "18446744073709551616", "abcdefghijkl", "abcdefghijklm", "{", "}", "(", ")", ",", ";", ":", "=", "==", "!=", "!", "<", "<=", ">", ">=", "+", "-", "*", "/", "%", " ", "\t", "\n", "\r", "#", "# !\n", "A", "é", "\xff", "_", "&"}
	told := 0
	for range 20000 {
		var b strings.Builder
		for range d.below(9) {
			if d.below(12) > 0 {
				b.WriteString(one(d, pieces[:len(pieces)-4]))
			} else {
				b.WriteString(one(d, pieces))
			}
		}
		src := b.String()
		_, bad := cutByPattern(src)
		if bad >= 0 {
			noParse(t, src, api.ErrTermsToken, bad)
			told++
		} else if _, err := terms.Parse(src); err == nil || err.(*api.Fault).Err != error(api.ErrTermsSyntax) {
			if _, wrong := mistake(wordsOf(src)); wrong {
				t.Errorf("Parse(%q): %v", src, err)
			}
		}
	}
	if told < 2000 || told > 18000 {
		t.Errorf("%d texts of 20000 had no tokens: the test has lost its aim", told)
	}
}

// wordsOf gives the words of a text that has only tokens.
func wordsOf(src string) []string {
	words, _ := cutByPattern(src)
	var texts []string
	for _, w := range words {
		texts = append(texts, w.text)
	}
	return texts
}
