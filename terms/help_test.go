package terms_test

import (
	"errors"
	"slices"
	"strconv"
	"strings"
	"testing"

	"quorum/api"
	"quorum/terms"
)

const most = 1<<64 - 1

// isFault wants a fault of this layer with just that number and place; none, if why is OK.
func isFault(t *testing.T, what string, err error, why api.Errno, at int) {
	t.Helper()
	if why == api.OK {
		if err != nil {
			t.Errorf("%s: %v, want no fault", what, err)
		}
		return
	}
	f, ok := err.(*api.Fault)
	if !ok || f == nil {
		t.Errorf("%s: %v is no fault, want %d at %d", what, err, why, at)
		return
	}
	if f.Layer != "terms" || f.At != at || f.Err != error(why) || !errors.Is(err, why) {
		t.Errorf("%s: refused with %v, want %d at %d", what, err, why, at)
	}
}

// noParse wants Parse to refuse a text.
func noParse(t *testing.T, src string, why api.Errno, at int) {
	t.Helper()
	got, err := terms.Parse(src)
	if got != nil {
		t.Errorf("Parse(%q) tells a tree beside its fault: %v", src, got)
	}
	isFault(t, "Parse("+src+")", err, why, at)
}

// parses wants Parse to answer that tree.
func parses(t *testing.T, src string, want []api.TermsNode) {
	t.Helper()
	got, err := terms.Parse(src)
	if err != nil || !slices.Equal(got, want) {
		t.Errorf("Parse(%q) = %v, %v, want %v", src, got, err, want)
	}
}

// read gives the tree of a text.
func read(t testing.TB, src string) []api.TermsNode {
	t.Helper()
	list, err := terms.Parse(src)
	if err != nil {
		t.Fatalf("Parse(%q): %v", src, err)
	}
	return list
}

// onFund gives the tree of a rule for fund with these statements.
func onFund(t testing.TB, body string) []api.TermsNode {
	t.Helper()
	return read(t, "on fund {"+body+"}")
}

func node(op api.TermsOp, n uint64, name string) api.TermsNode {
	return api.TermsNode{Op: op, N: n, Name: name}
}

// plain gives a node that has neither number nor name.
func plain(op api.TermsOp) api.TermsNode { return node(op, 0, "") }

func num(n uint64) api.TermsNode { return node(api.TNum, n, "") }

func named(name string) api.TermsNode { return node(api.TVar, 0, name) }

func bin(op uint64) api.TermsNode { return node(api.TBin, op, "") }

func block(n uint64) api.TermsNode { return node(api.TBlock, n, "") }

// fund gives the list of one rule for fund whose block has so many statements.
func fund(statements uint64, nodes ...api.TermsNode) []api.TermsNode {
	return append([]api.TermsNode{node(api.TRules, 1, ""), node(api.TOn, 0, ""), block(statements)}, nodes...)
}

// letTree gives the list of a rule for fund that has one statement, a let of a.
func letTree(nodes ...api.TermsNode) []api.TermsNode {
	return fund(1, append([]api.TermsNode{node(api.TLet, 0, "a")}, nodes...)...)
}

// dice gives numbers that look like any, the same ones in every run.
type dice struct{ state uint64 }

func (d *dice) below(n int) int {
	d.state = d.state*6364136223846793005 + 1442695040888963407
	return int((d.state ^ d.state>>29) >> 3 % uint64(n))
}

// one gives one of the things.
func one[T any](d *dice, things []T) T { return things[d.below(len(things))] }

// word is a token of a text, as the tests see it, and its offset.
type word struct {
	text string
	at   int
}

// joined writes words with one space between them, and tells where each stands.
func joined(texts []string) (string, []word) {
	var b strings.Builder
	var words []word
	for _, text := range texts {
		if b.Len() > 0 {
			b.WriteByte(' ')
		}
		words = append(words, word{text, b.Len()})
		b.WriteString(text)
	}
	return b.String(), words
}

// decimal writes a number.
func decimal(n uint64) string { return strconv.FormatUint(n, 10) }
