package terms_test

import (
	"regexp"
	"slices"
	"strings"
	"testing"

	"quorum/api"
	"quorum/terms"
)

var wordPattern = regexp.MustCompile(`^[a-z][a-z0-9]{0,11}$`)

// notATree reads a list part by part and tells the wrong place, if it is no tree.
func notATree(list []api.TermsNode) (place int, is bool) {
	const text, rule, blocks, statement, expression = 0, 1, 2, 3, 4
	sortOf := func(op api.TermsOp) int {
		switch {
		case op == api.TRules:
			return text
		case op == api.TOn:
			return rule
		case op == api.TBlock:
			return blocks
		case op >= api.TLet && op <= api.TDone:
			return statement
		case op >= api.TNum && op <= api.TCall:
			return expression
		}
		return -1
	}
	next := 0
	var part func(sort, depth int) bool
	part = func(sort, depth int) bool {
		if next == len(list) || next == 256 || depth > 24 {
			return false
		}
		n := list[next]
		if sortOf(n.Op) != sort || !nodeIsRight(n) {
			return false
		}
		next++
		for i := range wanted(n) {
			want := expression
			switch {
			case n.Op == api.TRules:
				want = rule
			case n.Op == api.TBlock:
				want = statement
			case n.Op == api.TOn, n.Op == api.TIf && i > 0, n.Op == api.TWhile && i > 0:
				want = blocks
			}
			if !part(want, depth+1) {
				return false
			}
		}
		return true
	}
	if part(text, 1) && next == len(list) {
		return 0, false
	}
	return next, true
}

// nodeIsRight looks at a node's number and name alone.
func nodeIsRight(n api.TermsNode) bool {
	isName := wordPattern.MatchString(n.Name) && !slices.Contains(strings.Fields(keywordList), n.Name)
	switch n.Op {
	case api.TRules:
		return n.N >= 1 && n.Name == ""
	case api.TOn:
		return n.N <= 5 && n.Name == ""
	case api.TBlock, api.TNum:
		return n.Name == ""
	case api.TLet, api.TSet, api.TVar:
		return n.N == 0 && isName
	case api.TWhile, api.TBreak, api.TContinue:
		return n.N == 0 && (n.Name == "" || isName)
	case api.TRequire, api.TFail:
		return n.N >= 1 && n.N <= 999 && n.Name == ""
	case api.TBin:
		return n.N <= 12 && n.Name == ""
	case api.TCall:
		return n.N <= 2 && n.Name == ""
	}
	return n.N == 0 && n.Name == ""
}

// noTree wants all three calls to refuse a list, and to leave it as it is.
func noTree(t *testing.T, list []api.TermsNode, at int) {
	t.Helper()
	was := slices.Clone(list)
	text, err := terms.Print(list)
	isFault(t, "P3.3: Print", err, api.ErrTermsTree, at)
	isFault(t, "P3.5: Check", terms.Check(list), api.ErrTermsTree, at)
	out, no := terms.Run(list, 0, api.TermsEnv{Held: 5}, 9)
	isFault(t, "P3.6: Run", no, api.ErrTermsTree, at)
	if text != "" || out != (api.TermsOutcome{}) {
		t.Errorf("beside the faults: %q, %v", text, out)
	}
	if !slices.Equal(list, was) {
		t.Errorf("the list was changed")
	}
	if t.Failed() {
		t.Fatalf("of the list %v", list)
	}
}

// isTree wants none of the three calls to say that a list is no tree.
func isTree(t *testing.T, what string, list []api.TermsNode) {
	t.Helper()
	_, err := terms.Print(list)
	_, no := terms.Run(list, 0, api.TermsEnv{}, 9)
	if isOneOf(err, api.ErrTermsTree) || isOneOf(terms.Check(list), api.ErrTermsTree) || no != nil {
		t.Errorf("%s: %v, %v, %v", what, err, terms.Check(list), no)
	}
}

func TestP3_3_5_6Places(t *testing.T) {
	list := func(nodes ...api.TermsNode) []api.TermsNode { return nodes }
	rules := func(n uint64) api.TermsNode { return node(api.TRules, n, "") }
	on := func(n uint64) api.TermsNode { return node(api.TOn, n, "") }
	done := plain(api.TDone)
	for _, c := range []struct {
		list []api.TermsNode
		at   int
	}{
		{nil, 0}, {list(), 0}, {list(rules(300)), 1}, {list(rules(most)), 1}, {list(rules(0)), 0}, {list(node(api.TRules, 1, "x")), 0}, {list(on(0)), 0}, {list(num(1)), 0}, {list(plain(0)), 0}, {list(plain(-1)), 0}, {list(plain(21)), 0}, {list(plain(1 << 40)), 0}, {list(plain(-1 << 63)), 0},
		{list(rules(1), rules(1)), 1}, {list(rules(1), block(0)), 1}, {list(rules(1), on(6)), 1}, {list(rules(1), on(most)), 1}, {list(rules(1), node(api.TOn, 0, "a")), 1}, {list(rules(1), on(0)), 2}, {list(rules(1), on(0), done), 2}, {list(rules(1), on(0), on(0)), 2},
		{list(rules(2), on(0), block(0)), 3}, {list(rules(2), on(0), block(0), on(5), block(0), on(0)), 5}, {list(rules(2), on(0), block(0), block(0)), 3}, {list(rules(1), on(0), block(0), on(1), block(0)), 3},
		{fund(0, done), 3}, {fund(0, plain(99)), 3}, {fund(1), 3}, {fund(most), 3}, {fund(1 << 63), 3}, {fund(most, done, done), 5}, {fund(1, done, done), 4}, {fund(2, done), 4}, {list(rules(1), on(0), node(api.TBlock, 0, "b")), 2}, {fund(1, block(0)), 3}, {fund(1, num(1)), 3}, {fund(1, on(0)), 3}, {fund(1, plain(21)), 3}, {fund(1, plain(-3)), 3}, {fund(1, plain(0)), 3},
		{fund(1, node(api.TLet, 1, "a"), num(1)), 3}, {fund(1, node(api.TLet, 0, ""), num(1)), 3}, {fund(1, node(api.TLet, 0, "if"), num(1)), 3}, {fund(1, node(api.TLet, 0, "abcdefghijklm"), num(1)), 3}, {fund(1, node(api.TLet, 0, "1a"), num(1)), 3}, {fund(1, node(api.TLet, 0, "a b"), num(1)), 3}, {fund(1, node(api.TLet, 0, "A"), num(1)), 3}, {fund(1, node(api.TLet, 0, "aB"), num(1)), 3}, {fund(1, node(api.TLet, 0, "a\n"), num(1)), 3}, {fund(1, node(api.TLet, 0, "é"), num(1)), 3}, {fund(1, node(api.TLet, 0, " a"), num(1)), 3}, {letTree(), 4}, {letTree(done), 4}, {letTree(block(0)), 4},
		{fund(1, node(api.TSet, 0, "share"), num(1)), 3}, {fund(1, node(api.TSet, 0, ""), num(1)), 3}, {fund(1, node(api.TSet, 7, "a"), num(1)), 3}, {fund(1, node(api.TSet, 0, "a"), done), 4},
		{fund(1, node(api.TIf, 1, ""), num(1), block(0), block(0)), 3}, {fund(1, node(api.TIf, 0, "a"), num(1), block(0), block(0)), 3}, {fund(1, plain(api.TIf), block(0), block(0)), 4}, {fund(1, plain(api.TIf), num(1), num(1), block(0)), 5}, {fund(1, plain(api.TIf), num(1), block(0), done), 6}, {fund(1, plain(api.TIf), num(1), block(0)), 6}, {fund(1, plain(api.TIf), num(1), block(0), block(0), block(0)), 7},
		{fund(1, node(api.TWhile, 2, ""), num(1), block(0)), 3}, {fund(1, node(api.TWhile, 0, "while"), num(1), block(0)), 3}, {fund(1, plain(api.TWhile), num(1), num(1)), 5}, {fund(1, plain(api.TWhile), block(0)), 4},
		{fund(1, node(api.TBreak, 0, "on")), 3}, {fund(1, node(api.TBreak, 1, "")), 3}, {fund(1, node(api.TContinue, 0, "0")), 3}, {fund(1, node(api.TContinue, 1, "a")), 3}, {fund(1, plain(api.TBreak), num(1)), 4},
		{fund(1, node(api.TRequire, 0, ""), num(1)), 3}, {fund(1, node(api.TRequire, 1000, ""), num(1)), 3}, {fund(1, node(api.TRequire, 1, "a"), num(1)), 3}, {fund(1, node(api.TRequire, 1, "")), 4}, {fund(1, node(api.TRequire, 1, ""), done), 4},
		{fund(1, node(api.TPay, 1, ""), num(1), num(1)), 3}, {fund(1, node(api.TPay, 0, "a"), num(1), num(1)), 3}, {fund(1, plain(api.TPay), num(1)), 5}, {fund(1, plain(api.TPay), num(1), done), 5}, {fund(1, plain(api.TPay), num(1), num(1), num(1)), 6},
		{fund(1, node(api.TFail, 0, "")), 3}, {fund(1, node(api.TFail, 1000, "")), 3}, {fund(1, node(api.TFail, most, "")), 3}, {fund(1, node(api.TFail, 1, "a")), 3}, {fund(1, node(api.TDone, 1, "")), 3}, {fund(1, node(api.TDone, 0, "a")), 3},
		{letTree(node(api.TNum, 0, "a")), 4}, {letTree(node(api.TTrue, 1, "")), 4}, {letTree(node(api.TTrue, 0, "a")), 4}, {letTree(node(api.TFalse, 1, "")), 4}, {letTree(node(api.TFalse, 0, "a")), 4}, {letTree(node(api.TVar, 1, "a")), 4}, {letTree(node(api.TVar, 0, "")), 4}, {letTree(node(api.TVar, 0, "true")), 4}, {letTree(node(api.TNot, 1, ""), num(1)), 4}, {letTree(node(api.TNot, 0, "a"), num(1)), 4}, {letTree(plain(api.TNot)), 5},
		{letTree(bin(13), num(1), num(1)), 4}, {letTree(bin(most), num(1), num(1)), 4}, {letTree(node(api.TBin, 0, "a"), num(1), num(1)), 4}, {letTree(bin(0), num(1)), 6}, {letTree(bin(0), num(1), num(1), num(1)), 7}, {letTree(bin(0), num(1), done), 6},
		{letTree(node(api.TCall, 3, ""), num(1), num(1)), 4}, {letTree(node(api.TCall, 0, "a"), num(1), num(1)), 4}, {letTree(node(api.TCall, 0, ""), num(1)), 6}, {letTree(node(api.TCall, 0, ""), num(1), num(1), num(1)), 7}, {letTree(node(api.TCall, 1, ""), num(1), num(1), num(1)), 7}, {letTree(node(api.TCall, 2, ""), num(1), num(1)), 7}, {letTree(node(api.TCall, 2, ""), num(1), num(1), num(1), num(1)), 8},
	} {
		noTree(t, c.list, c.at)
	}
}

// Every keyword is no name, whatever node would bear it.
func TestP3_3_5_6Keywords(t *testing.T) {
	for _, w := range strings.Fields(keywordList) {
		noTree(t, letTree(named(w)), 4)
		noTree(t, fund(1, node(api.TBreak, 0, w)), 3)
		isTree(t, w, letTree(named(w+"0")))
	}
	isTree(t, "a name of 12 bytes", fund(1, node(api.TWhile, 0, "abcdefghij09"), num(most), block(0)))
}

func TestP3_3_5_6Depth(t *testing.T) {
	nots := func(n int) []api.TermsNode { return slices.Repeat([]api.TermsNode{plain(api.TNot)}, n) }
	isTree(t, "depth 24", letTree(append(nots(19), num(1))...))
	noTree(t, letTree(append(nots(20), num(1))...), 24)
	noTree(t, letTree(nots(20)...), 24)
	noTree(t, letTree(append(nots(20), plain(99))...), 24)
	noTree(t, letTree(nots(200)...), 24)
	ifs := func(n int, last uint64) []api.TermsNode {
		var out []api.TermsNode
		for i := range n {
			inside := uint64(1)
			if i == n-1 {
				inside = last
			}
			out = append(out, plain(api.TIf), plain(api.TTrue), block(inside))
		}
		return out
	}
	isTree(t, "a block of depth 23", fund(1, append(ifs(10, 0), slices.Repeat([]api.TermsNode{block(0)}, 10)...)...))
	isTree(t, "a statement of depth 24", fund(1, append(append(ifs(10, 1), plain(api.TDone)), slices.Repeat([]api.TermsNode{block(0)}, 10)...)...))
	noTree(t, fund(1, append(ifs(10, 1), plain(api.TPay), num(1), num(2))...), 34)
}

func TestP3_3_5_6Many(t *testing.T) {
	dones := func(n int) []api.TermsNode { return slices.Repeat([]api.TermsNode{plain(api.TDone)}, n) }
	isTree(t, "256 nodes", fund(253, dones(253)...))
	noTree(t, fund(254, dones(254)...), 256)
	noTree(t, fund(254, dones(253)...), 256)
	noTree(t, fund(400, dones(400)...), 256)
	noTree(t, fund(253, dones(254)...), 256)
	noTree(t, fund(400, append(dones(300), plain(99))...), 256)
	noTree(t, fund(400, append(dones(252), plain(99))...), 255)
	noTree(t, fund(400, append(dones(253), plain(99))...), 256)
	noTree(t, fund(400, dones(100000)...), 256)
}

// Trees with a node or two changed, left out, put in, or their end cut off: held against a reader that goes part by part.
func TestP3_3_5_6Any(t *testing.T) {
	d := &dice{404}
	names := []string{"", "", "a", "on", "A", "abcdefghijklm", "x1"}
	wrong := 0
	for range 8000 {
		list := someTree(d, true, 20+d.below(60))
		for range 1 + d.below(2) {
			i := d.below(len(list))
			n := node(api.TermsOp(d.below(22)), uint64(d.below(5)), one(d, names))
			switch d.below(6) {
			case 0:
				list[i].Op = n.Op
			case 1:
				list[i].N = one(d, []uint64{0, 1, 2, 3, 5, 6, 12, 13, 999, 1000, most})
			case 2:
				list[i].Name = n.Name
			case 3:
				list = slices.Insert(list, i, n)
			case 4:
				list = slices.Insert(list, i, list[d.below(len(list))])
			case 5:
				list = list[:i+1]
			}
		}
		if at, no := notATree(list); no {
			wrong++
			noTree(t, list, at)
		} else {
			isTree(t, "a changed tree", list)
		}
	}
	if wrong < 4000 || wrong > 7960 {
		t.Errorf("%d lists of 8000 were no trees: the test has lost its aim", wrong)
	}
}
