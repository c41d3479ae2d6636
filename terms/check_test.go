package terms_test

import (
	"maps"
	"slices"
	"strings"
	"testing"

	"quorum/api"
	"quorum/terms"
)

// checks wants Check to answer that number at that node, for a rule for fund with these statements.
func checks(t *testing.T, body string, why api.Errno, at int) {
	t.Helper()
	list := onFund(t, body)
	was := slices.Clone(list)
	isFault(t, "Check of "+body, terms.Check(list), why, at)
	if !slices.Equal(list, was) {
		t.Errorf("Check of %s has changed the list", body)
	}
}

func TestP3_5Event(t *testing.T) {
	for _, c := range []struct {
		src string
		why api.Errno
		at  int
	}{
		{"on fund {} on release {} on dispute {} on arbitrate {} on refund {} on expire {}", api.OK, 0},
		{"on fund {} on fund {}", api.ErrTermsEvent, 3}, {"on fund {} on expire {} on fund { break; }", api.ErrTermsEvent, 5}, {"on fund { break; } on fund {}", api.ErrTermsLabel, 3}, {"on expire {} on expire { break; } on fund {} on fund {}", api.ErrTermsEvent, 3}, {"on fund {} on refund { done; } on refund {} on fund {}", api.ErrTermsEvent, 6},
	} {
		isFault(t, "Check of "+c.src, terms.Check(read(t, c.src)), c.why, c.at)
	}
}

func TestP3_5Name(t *testing.T) {
	for _, c := range []struct {
		body string
		why  api.Errno
		at   int
	}{
		{"let a = 1; let a = 2;", api.ErrTermsName, 5}, {"if true { let a = 1; } let a = 2;", api.OK, 0}, {"let a = 1; if true { let a = 2; }", api.ErrTermsName, 8}, {"if true { let a = 1; } else { let a = 2; }", api.OK, 0}, {"while true { let a = 1; } let a = true;", api.OK, 0}, {"if true { if true { let a = 1; } let a = 1; } let a = 1;", api.OK, 0},
		{"let a = a;", api.ErrTermsName, 4}, {"let a = 1 + a;", api.ErrTermsName, 6}, {"let a = 1; let b = a;", api.OK, 0}, {"let a = b; let b = 1;", api.ErrTermsName, 4}, {"let a = 1; let b = a + b;", api.ErrTermsName, 8},
		{"set a = 1;", api.ErrTermsName, 3}, {"set a = b;", api.ErrTermsName, 3}, {"let a = 1; set a = a;", api.OK, 0}, {"let a = 1; set b = a;", api.ErrTermsName, 5}, {"if true { let a = 1; } set a = 2;", api.ErrTermsName, 9}, {"while true { let a = 1; } pay a to 1;", api.ErrTermsName, 9}, {"if true { let a = 1; } else { set a = 1; }", api.ErrTermsName, 9}, {"let a = 1; while a < 3 { if true { set a = a + 1; } }", api.OK, 0}, {"set a = 1; let a = 1;", api.ErrTermsName, 3},
		{"pay x to true;", api.ErrTermsName, 4}, {"require x, 1;", api.ErrTermsName, 4}, {"if x {}", api.ErrTermsName, 4}, {"while not x {}", api.ErrTermsName, 5}, {"pay min(1, x) to 1;", api.ErrTermsName, 6}, {"let a = x == 1;", api.ErrTermsName, 5}, {"let a = true == x;", api.ErrTermsName, 6}, {"let a = 1 == x;", api.ErrTermsName, 6},
		{"done; let a = b;", api.ErrTermsName, 5}, {"while true { break; set a = 1; }", api.ErrTermsName, 7}, {"o: while true { pay o to 1; }", api.ErrTermsName, 7}, {"fail 1; pay b to 1;", api.ErrTermsName, 5},
	} {
		checks(t, c.body, c.why, c.at)
	}
	for _, in := range inputNames {
		checks(t, "let "+in+" = 1;", api.ErrTermsName, 3)
		checks(t, "set "+in+" = "+in+";", api.ErrTermsName, 3)
		checks(t, "let a = "+in+";", api.OK, 0)
		checks(t, in+": while true { break "+in+"; }", api.OK, 0)
		if in != "disputed" {
			checks(t, "pay "+in+" to "+in+";", api.OK, 0)
			checks(t, "require "+in+", 1;", api.ErrTermsKind, 4)
		}
	}
	checks(t, "require disputed, 1;", api.OK, 0)
	checks(t, "pay disputed to 1;", api.ErrTermsKind, 4)
	isFault(t, "a name of another rule", terms.Check(read(t, "on fund { let a = 1; } on expire { pay a to 1; }")), api.ErrTermsName, 8)
	isFault(t, "a name in two rules", terms.Check(read(t, "on fund { let a = 1; } on expire { let a = true; }")), api.OK, 0)
}

func TestP3_5Many(t *testing.T) {
	eight := "let a=1;let b=1;let c=1;let d=1;let e=1;let f=1;let g=1;let h=1;"
	checks(t, eight, api.OK, 0)
	checks(t, eight+"let i=1;", api.ErrTermsMany, 19)
	checks(t, eight+"let a=1;", api.ErrTermsName, 19)
	checks(t, eight+"let held=1;", api.ErrTermsName, 19)
	checks(t, eight+"let i=x;", api.ErrTermsMany, 19)
	checks(t, eight+"if true{let i=1;}", api.ErrTermsMany, 22)
	checks(t, eight+"set a=b+c+d+e+f+g+h;", api.OK, 0)
	seven := strings.TrimSuffix(eight, "let h=1;")
	checks(t, seven+"if true{let h=1;}let i=1;", api.OK, 0)
	checks(t, seven+"if true{let h=1;let i=1;}", api.ErrTermsMany, 22)
	checks(t, seven+"if true{let h=1;}else{let i=1;}while true{let j=1;}", api.OK, 0)
	checks(t, "if true{"+eight+"}"+eight, api.OK, 0)
	checks(t, "let a=1;while true{let b=1;if true{let c=1;let d=1;let e=1;let f=1;let g=1;let h=1;while true{let i=1;}}}", api.ErrTermsMany, 28)
}

func TestP3_5Label(t *testing.T) {
	for _, c := range []struct {
		body string
		why  api.Errno
		at   int
	}{
		{"break;", api.ErrTermsLabel, 3}, {"continue;", api.ErrTermsLabel, 3}, {"break a;", api.ErrTermsLabel, 3}, {"if true { continue; }", api.ErrTermsLabel, 6}, {"while true { break; continue; }", api.OK, 0}, {"while true {} break;", api.ErrTermsLabel, 6}, {"while true { if true { break; } else { continue; } }", api.OK, 0},
		{"while true { break o; }", api.ErrTermsLabel, 6}, {"o: while true { break o; continue o; break; }", api.OK, 0}, {"o: while true { while true { continue o; } }", api.OK, 0}, {"o: while true { p: while true { if true { break o; } break p; } }", api.OK, 0}, {"o: while true { p: while true { } break p; }", api.ErrTermsLabel, 9}, {"o: while true {} continue o;", api.ErrTermsLabel, 6}, {"o: while true { continue p; }", api.ErrTermsLabel, 6},
		{"o: while true { o: while true {} }", api.ErrTermsLabel, 6}, {"o: while true {} o: while true {}", api.OK, 0}, {"o: while true { while true { if true { o: while 1 {} } } }", api.ErrTermsLabel, 12}, {"while true { while true {} }", api.OK, 0}, {"o: while true { p: while true { } p: while true {} }", api.OK, 0},
		{"let a = 1; a: while true { break a; }", api.OK, 0}, {"o: while true { let o = 1; }", api.OK, 0}, {"done; break;", api.ErrTermsLabel, 4}, {"o: while 1 { o: while true {} }", api.ErrTermsKind, 4},
	} {
		checks(t, c.body, c.why, c.at)
	}
	isFault(t, "a label of another rule", terms.Check(read(t, "on fund { o: while true {} } on expire { break o; }")), api.ErrTermsLabel, 8)
	isFault(t, "a label in two rules", terms.Check(read(t, "on fund { o: while true {} } on expire { o: while true {} }")), api.OK, 0)
}

func TestP3_5Kind(t *testing.T) {
	for _, c := range []struct {
		body string
		why  api.Errno
		at   int
	}{
		{"if 1 {}", api.ErrTermsKind, 4}, {"if 1 + 1 { break; }", api.ErrTermsKind, 4}, {"while 1 {}", api.ErrTermsKind, 4}, {"require held, 1;", api.ErrTermsKind, 4}, {"require min(1, 2), 1;", api.ErrTermsKind, 4}, {"require 1 < 2, 1;", api.OK, 0}, {"require not true, 1;", api.OK, 0}, {"require true or false, 1;", api.OK, 0},
		{"let a = not 1;", api.ErrTermsKind, 5}, {"let a = not not 1;", api.ErrTermsKind, 6}, {"let a = not (1 == 1);", api.OK, 0}, {"let a = not (1 + true);", api.ErrTermsKind, 5},
		{"let a = 1 or true;", api.ErrTermsKind, 5}, {"let a = true or 1;", api.ErrTermsKind, 6}, {"let a = 1 and true;", api.ErrTermsKind, 5}, {"let a = true and 1;", api.ErrTermsKind, 6}, {"let a = true and (true or held);", api.ErrTermsKind, 8},
		{"pay true to 1;", api.ErrTermsKind, 4}, {"pay 1 to true;", api.ErrTermsKind, 5}, {"pay 1 < 2 to 1;", api.ErrTermsKind, 4}, {"pay not true to 1;", api.ErrTermsKind, 4}, {"pay 1 + 2 to share(1, 2, 3);", api.OK, 0},
		{"let a = min(true, 1);", api.ErrTermsKind, 5}, {"let a = min(1, true);", api.ErrTermsKind, 6}, {"let a = max(false, 1);", api.ErrTermsKind, 5}, {"let a = share(1, 1, true);", api.ErrTermsKind, 7}, {"let a = share(1, true, 1);", api.ErrTermsKind, 6}, {"let a = share(true, 1, 1);", api.ErrTermsKind, 5}, {"let a = max(1, 2) + min(3, 4);", api.OK, 0},
		{"let b = true == 1;", api.ErrTermsKind, 6}, {"let b = 1 != true;", api.ErrTermsKind, 6}, {"let b = 1 == 1;", api.OK, 0}, {"let b = true != false;", api.OK, 0}, {"let a = (1 == 2) == disputed;", api.OK, 0}, {"let a = (1 < 2) == (1 + 1);", api.ErrTermsKind, 8}, {"let a = min(1, 2) == (not true);", api.ErrTermsKind, 8}, {"let a = held == disputed;", api.ErrTermsKind, 6}, {"let a = disputed == held;", api.ErrTermsKind, 6}, {"let a = 1 + true == true;", api.ErrTermsKind, 7},
		{"let a = 1; set a = true;", api.ErrTermsKind, 6}, {"let a = true; set a = 1;", api.ErrTermsKind, 6}, {"let a = true; set a = disputed or a;", api.OK, 0}, {"let a = 1; let b = a; set b = true;", api.ErrTermsKind, 8}, {"let a = disputed; let b = a; set b = b and a;", api.OK, 0}, {"let a = 1 < 2; pay a to 1;", api.ErrTermsKind, 8}, {"let a = 1 + 2; require a, 1;", api.ErrTermsKind, 8}, {"let a = min(1, 2); require a, 1;", api.ErrTermsKind, 8}, {"let a = not true; pay a to 1;", api.ErrTermsKind, 7}, {"let a = true; pay a to 1;", api.ErrTermsKind, 6}, {"let a = false; pay a to 1;", api.ErrTermsKind, 6}, {"let a = held; require a, 1;", api.ErrTermsKind, 6},
		{"if true { let a = 1; } let a = true; require a, 1;", api.OK, 0}, {"while true { let a = 1; set a = 2; } let a = true; set a = 1;", api.ErrTermsKind, 13}, {"let a = (1 or 2) + 3;", api.ErrTermsKind, 5},
	} {
		checks(t, c.body, c.why, c.at)
	}
	for op, w := range strings.Fields("or and == != < <= > >= + - * / %") {
		kinds := [...]string{"tt", "tt", "", "", "nn", "nn", "nn", "nn", "nn", "nn", "nn", "nn", "nn"}[op]
		gives := [...]string{"t", "t", "t", "t", "t", "t", "t", "t", "n", "n", "n", "n", "n"}[op]
		words := map[string]string{"t": "true", "n": "1"}
		for l, left := range words {
			for r, right := range words {
				why, at := api.OK, 0
				switch {
				case kinds != "" && l != kinds[:1]:
					why, at = api.ErrTermsKind, 5
				case kinds != "" && r != kinds[1:], kinds == "" && l != r:
					why, at = api.ErrTermsKind, 6
				}
				expr := left + " " + w + " " + right
				checks(t, "let a = "+expr+";", why, at)
				if why == api.OK {
					want := map[string]api.Errno{"t": api.OK, "n": api.ErrTermsKind}[gives]
					checks(t, "require "+expr+", 1;", want, 4)
					want = map[string]api.Errno{"n": api.OK, "t": api.ErrTermsKind}[gives]
					checks(t, "pay "+expr+" to 1;", want, 4)
				}
			}
		}
	}
}

// The one that is told is the lowest, whatever number it has.
func TestP3_5Lowest(t *testing.T) {
	for _, c := range []struct {
		body string
		why  api.Errno
		at   int
	}{
		{"break; set a = 1;", api.ErrTermsLabel, 3}, {"set a = 1; break;", api.ErrTermsName, 3}, {"require 1, 1; break;", api.ErrTermsKind, 4}, {"pay x + true to true;", api.ErrTermsName, 5}, {"pay true + x to 1;", api.ErrTermsKind, 5}, {"require x + 1, 1;", api.ErrTermsKind, 4}, {"pay 1 to not x;", api.ErrTermsKind, 5}, {"let a = 1; let a = b;", api.ErrTermsName, 5}, {"let held = true + 1;", api.ErrTermsName, 3}, {"set held = true + 1;", api.ErrTermsName, 3},
	} {
		checks(t, c.body, c.why, c.at)
	}
}

// surveyor gathers all that is wrong with a tree, node by node.
type surveyor struct {
	found map[int]api.Errno
}

// view is what can be seen at a place: the names of lets and whether they are truths ('?' where that can't be told), and the labels around.
type view struct {
	lets   map[string]byte
	labels []string
}

func kindOf(g *grown, v view) byte {
	switch g.Op {
	case api.TNum, api.TCall:
		return 'n'
	case api.TBin:
		if g.N >= api.BinAdd {
			return 'n'
		}
	case api.TVar:
		if slices.Contains(inputNames, g.Name) {
			if g.Name != "disputed" {
				return 'n'
			}
		} else if k, is := v.lets[g.Name]; is {
			return k
		} else {
			return '?'
		}
	}
	return 't'
}

// expression looks over an expression in a place that wants that kind ('?' for either).
func (s *surveyor) expression(g *grown, v view, wants byte) {
	is := kindOf(g, v)
	if is == '?' && g.Op == api.TVar && v.lets[g.Name] == 0 {
		s.found[g.at] = api.ErrTermsName
		return
	}
	if is != '?' && wants != '?' && is != wants {
		s.found[g.at] = api.ErrTermsKind
	}
	for i, p := range g.parts {
		w := byte('n')
		if g.Op == api.TNot || g.Op == api.TBin && g.N <= api.BinAnd {
			w = 't'
		}
		if g.Op == api.TBin && (g.N == api.BinEq || g.N == api.BinNe) {
			w = '?'
			if i == 1 {
				w = kindOf(g.parts[0], v)
			}
		}
		s.expression(p, v, w)
	}
}

func (s *surveyor) block(g *grown, v view) {
	v.lets = maps.Clone(v.lets)
	for _, p := range g.parts {
		s.statement(p, v)
	}
}

func (s *surveyor) statement(g *grown, v view) {
	switch g.Op {
	case api.TLet:
		if slices.Contains(inputNames, g.Name) || v.lets[g.Name] != 0 {
			s.found[g.at] = api.ErrTermsName
		} else if len(v.lets) >= 8 {
			s.found[g.at] = api.ErrTermsMany
		}
		s.expression(g.parts[0], v, '?')
		v.lets[g.Name] = kindOf(g.parts[0], v)
	case api.TSet:
		k := v.lets[g.Name]
		if k == 0 {
			s.found[g.at] = api.ErrTermsName
			k = '?'
		}
		s.expression(g.parts[0], v, k)
	case api.TIf:
		s.expression(g.parts[0], v, 't')
		s.block(g.parts[1], v)
		s.block(g.parts[2], v)
	case api.TWhile:
		if g.Name != "" && slices.Contains(v.labels, g.Name) {
			s.found[g.at] = api.ErrTermsLabel
		}
		s.expression(g.parts[0], v, 't')
		v.labels = append(slices.Clone(v.labels), g.Name)
		s.block(g.parts[1], v)
	case api.TBreak, api.TContinue:
		if g.Name == "" && len(v.labels) == 0 || g.Name != "" && !slices.Contains(v.labels, g.Name) {
			s.found[g.at] = api.ErrTermsLabel
		}
	case api.TRequire:
		s.expression(g.parts[0], v, 't')
	case api.TPay:
		s.expression(g.parts[0], v, 'n')
		s.expression(g.parts[1], v, 'n')
	}
}

// survey gives what a tree's Check must answer.
func survey(list []api.TermsNode) (api.Errno, int) {
	s := surveyor{map[int]api.Errno{}}
	var events []uint64
	for _, on := range regrown(list).parts {
		if slices.Contains(events, on.N) {
			s.found[on.at] = api.ErrTermsEvent
		}
		events = append(events, on.N)
		s.block(on.parts[0], view{lets: map[string]byte{}})
	}
	for at := range list {
		if why := s.found[at]; why != api.OK {
			return why, at
		}
	}
	return api.OK, 0
}

// Many trees, right and wrong, held against the surveyor.
func TestP3_5Any(t *testing.T) {
	d := &dice{55}
	told := map[api.Errno]int{}
	for i := range 8000 {
		list := someTree(d, i%4 > 0, 20+d.below(80))
		why, at := survey(list)
		told[why]++
		isFault(t, "Check of some tree", terms.Check(list), why, at)
		if i%4 == 0 && why != api.OK {
			t.Errorf("a tree that was made to be right: %d at %d", why, at)
		}
		if t.Failed() {
			t.Fatalf("of %v", list)
		}
	}
	for _, why := range []api.Errno{api.OK, api.ErrTermsEvent, api.ErrTermsName, api.ErrTermsMany, api.ErrTermsLabel, api.ErrTermsKind} {
		if told[why] < 20 {
			t.Errorf("%d was told %d times: the test has lost its aim", why, told[why])
		}
	}
}
