package terms_test

import (
	"slices"
	"strconv"
	"strings"
	"testing"

	"quorum/api"
	"quorum/terms"
)

// grammar is the document's, word by word.
const grammar = `
rules     = rule { rule } .
rule      = "on" event block .
event     = "fund" | "release" | "dispute" | "arbitrate" | "refund" | "expire" .
block     = "{" { statement } "}" .
statement = "let" name "=" expr ";"
          | "set" name "=" expr ";"
          | if
          | [ name ":" ] "while" expr block
          | "break" [ name ] ";"
          | "continue" [ name ] ";"
          | "require" expr "," code ";"
          | "pay" expr "to" expr ";"
          | "fail" code ";"
          | "done" ";" .
if        = "if" expr block [ "else" ( if | block ) ] .
expr      = both { "or" both } .
both      = turned { "and" turned } .
turned    = "not" turned | compared .
compared  = sum [ ( "==" | "!=" | "<" | "<=" | ">" | ">=" ) sum ] .
sum       = product { ( "+" | "-" ) product } .
product   = primary { ( "*" | "/" | "%" ) primary } .
primary   = number | "true" | "false" | name | "(" expr ")"
          | "min" "(" expr "," expr ")" | "max" "(" expr "," expr ")"
          | "share" "(" expr "," expr "," expr ")" .
`

const keywordList = "on fund release dispute arbitrate refund expire let set if else while break continue require pay to fail done true false not and or min max share"

// form is a piece of the grammar: a word ("..), a class or another form's name, a row of pieces, a choice, what may be left out, what may stand any number of times.
type form struct {
	sort  string // word, name, row, choice, maybe, any
	text  string
	parts []*form
}

var allForms = readGrammar()

// readGrammar gives the forms by their names.
func readGrammar() map[string]*form {
	fields := strings.Fields(grammar)
	forms := map[string]*form{}
	for len(fields) > 0 {
		name := fields[0]
		var f *form
		f, fields = readChoice(fields[2:])
		forms[name] = f
		fields = fields[1:] // the dot
	}
	return forms
}

func readChoice(fields []string) (*form, []string) {
	c := &form{sort: "choice"}
	for {
		row := &form{sort: "row"}
		for !slices.Contains([]string{"|", ".", ")", "]", "}"}, fields[0]) {
			var f *form
			f, fields = readForm(fields)
			row.parts = append(row.parts, f)
		}
		c.parts = append(c.parts, row)
		if fields[0] != "|" {
			return c, fields
		}
		fields = fields[1:]
	}
}

func readForm(fields []string) (*form, []string) {
	sorts := map[string]string{"{": "any", "[": "maybe", "(": "choice"}
	if sort, is := sorts[fields[0]]; is {
		c, rest := readChoice(fields[1:])
		return &form{sort: sort, parts: []*form{c}}, rest[1:]
	}
	if text, is := strings.CutPrefix(fields[0], `"`); is {
		return &form{sort: "word", text: strings.TrimSuffix(text, `"`)}, fields[1:]
	}
	return &form{sort: "name", text: fields[0]}, fields[1:]
}

// pile is what is still wanted: the top, and what lies below it.
type pile struct {
	top   *form
	below *pile
}

// machine follows the grammar along a text: all piles that the words so far may have left.
type machine struct {
	forms map[string]*form
	piles []*pile
}

func newMachine() *machine {
	m := &machine{forms: allForms}
	m.piles = m.open(&pile{top: &form{sort: "name", text: "rules"}}, nil)
	return m
}

// open takes apart what lies on top, until it is a word or a class (or nothing is left).
func (m *machine) open(p *pile, out []*pile) []*pile {
	if p == nil {
		return append(out, nil)
	}
	f, below := p.top, p.below
	switch f.sort {
	case "row":
		for i := len(f.parts) - 1; i >= 0; i-- {
			below = &pile{f.parts[i], below}
		}
		return m.open(below, out)
	case "choice":
		for _, c := range f.parts {
			out = m.open(&pile{c, below}, out)
		}
		return out
	case "maybe":
		return m.open(&pile{f.parts[0], below}, m.open(below, out))
	case "any":
		return m.open(&pile{f.parts[0], &pile{f, below}}, m.open(below, out))
	case "name":
		if g := m.forms[f.text]; g != nil {
			return m.open(&pile{g, below}, out)
		}
	}
	return append(out, p)
}

// step goes on behind a word; false if it cannot stand there.
func (m *machine) step(text string) bool {
	var next []*pile
	for _, p := range m.piles {
		if p != nil && fitsForm(p.top, text) {
			next = m.open(p.below, next)
		}
	}
	m.piles = next
	return len(next) > 0
}

// ended tells whether the text may end here.
func (m *machine) ended() bool { return slices.Contains(m.piles, nil) }

// fitsForm tells whether a token is that word or of that class.
func fitsForm(f *form, text string) bool {
	first := text[0]
	switch {
	case f.sort == "word":
		return f.text == text
	case f.text == "name":
		return first >= 'a' && first <= 'z' && !slices.Contains(strings.Fields(keywordList), text)
	case f.text == "code":
		n, err := strconv.Atoi(text)
		return err == nil && n >= 1 && n <= 999
	}
	return first >= '0' && first <= '9' // a number
}

// mistake gives the place of the first of the words that cannot stand there, or how many they are if the text ends too early; false if there is neither.
func mistake(words []string) (int, bool) {
	m := newMachine()
	for i, w := range words {
		if !m.step(w) {
			return i, true
		}
	}
	return len(words), !m.ended()
}

// readsLike wants Parse to refuse the words just where the grammar does. It tells whether they were refused.
func readsLike(t *testing.T, texts []string) bool {
	t.Helper()
	src, words := joined(texts)
	i, bad := mistake(texts)
	at := len(src)
	if i < len(words) {
		at = words[i].at
	}
	if bad {
		noParse(t, src, api.ErrTermsSyntax, at)
		return true
	}
	tree, err := terms.Parse(src)
	if err != nil && !isOneOf(err, api.ErrTermsMany, api.ErrTermsDeep) || err == nil && tree == nil {
		t.Errorf("Parse(%q): %v, %v, though the grammar has it", src, tree, err)
	}
	return false
}

// isOneOf tells whether a fault has one of the numbers.
func isOneOf(err error, numbers ...api.Errno) bool {
	f, is := err.(*api.Fault)
	for _, n := range numbers {
		if is && f.Err == error(n) {
			return true
		}
	}
	return false
}

var vocabulary = append(strings.Fields(keywordList), strings.Fields("{ } ( ) , ; : = == != < <= > >= + - * / % a held o 0 1 999 1000 18446744073709551615 { } ; ( ) a 1")...)

// Words one behind the other, mostly such as can stand there: in most texts the first that cannot comes late.
func TestP3_1SyntaxAny(t *testing.T) {
	d := &dice{7}
	refused, longest := 0, 0
	for range 4000 {
		m := newMachine()
		var texts []string
		for len(texts) < 60 {
			w := one(d, vocabulary)
			next := &machine{m.forms, m.piles}
			good := next.step(w)
			if !good && d.below(120) > 0 {
				continue
			}
			texts = append(texts, w)
			if !good {
				break
			}
			m = next
			if m.ended() && d.below(3) > 0 {
				break
			}
		}
		if src, _ := joined(texts); len(src) > api.MaxTerms {
			continue
		}
		if readsLike(t, texts) {
			refused++
			longest = max(longest, len(texts))
		}
	}
	if refused < 1000 || longest < 50 {
		t.Errorf("only %d texts were refused, the longest at %d words: the test has lost its aim", refused, longest)
	}
}

// Whole texts with a word left out, put in, or changed for another.
func TestP3_1SyntaxEdited(t *testing.T) {
	d := &dice{99}
	refused := 0
	for range 3000 {
		text, err := terms.Print(someTree(d, true, 40))
		if err != nil {
			continue
		}
		texts := wordsOf(text)
		if len(texts) == 0 {
			t.Fatalf("no words in %q", text)
		}
		i := d.below(len(texts))
		switch d.below(3) {
		case 0:
			texts = slices.Delete(texts, i, i+1)
		case 1:
			texts = slices.Insert(texts, i, one(d, vocabulary))
		default:
			texts[i] = one(d, vocabulary)
		}
		if src, _ := joined(texts); len(src) <= api.MaxTerms && readsLike(t, texts) {
			refused++
		}
	}
	if refused < 500 {
		t.Errorf("only %d texts were refused: the test has lost its aim", refused)
	}
}

// At every place of some whole texts, every word that there is; and the text's end.
func TestP3_1SyntaxEverywhere(t *testing.T) {
	for _, src := range []string{
		"on fund { let a = 1 ; set a = not b or ( c ) and d == e + f * g ; } on expire { }",
		"on release { if a { done ; } else if not b { } else { fail 7 ; } o : while true { break o ; continue ; break ; continue p ; } }",
		"on dispute { require a < b , 999 ; pay min ( 1 , 2 ) to share ( a , b , max ( c , 0 ) ) ; } on refund { } on arbitrate { }",
	} {
		texts := wordsOf(src)
		for i := range len(texts) + 1 {
			readsLike(t, texts[:i])
			for _, w := range vocabulary {
				readsLike(t, append(slices.Clone(texts[:i]), w))
			}
		}
	}
}
