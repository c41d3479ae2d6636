package code_test

import (
	"reflect"
	"slices"
	"testing"

	"quorum/api"
	"quorum/code"
	"quorum/terms"
)

// onFund wants a rule for fund with these statements to have just this code.
func onFund(t *testing.T, body string, consts []uint64, slots []int, text string) {
	t.Helper()
	hasProgram(t, "on fund {"+body+"}", consts, slots, [6]int{0, -1, -1, -1, -1, -1}, text)
}

func TestP4_1Statements(t *testing.T) {
	onFund(t, "", nil, nil, "done")
	onFund(t, "done;", nil, nil, "tick, done, done")
	onFund(t, "fail 1; fail 999;", nil, nil, "tick, fail 1, tick, fail 999, done")
	onFund(t, "require true, 1; require false, 999;", nil, nil, "tick, true, require 1, tick, false, require 999, done")
	onFund(t, "pay 5 to 2;", []uint64{5, 2}, nil, "tick, num 0, num 1, pay, done")
	onFund(t, "let a = 4; let b = true; set a = 5; set b = false;", []uint64{4, 5}, []int{0, 1}, "tick, num 0, put 0, tick, true, put 1, tick, num 1, put 0, tick, false, put 1, done")
	onFund(t, "if true {}", nil, nil, "tick, true, jumpnot 3, done")
	onFund(t, "if true { fail 1; }", nil, nil, "tick, true, jumpnot 5, tick, fail 1, done")
	onFund(t, "if true {} else { fail 2; }", nil, nil, "tick, true, jumpnot 4, jump 6, tick, fail 2, done")
	onFund(t, "if true { fail 1; } else { fail 2; } done;", nil, nil, "tick, true, jumpnot 6, tick, fail 1, jump 8, tick, fail 2, tick, done, done")
	onFund(t, "if true {} else if false {}", nil, nil, "tick, true, jumpnot 4, jump 7, tick, false, jumpnot 7, done")
	onFund(t, "if true { if false {} else { done; } } else {}", nil, nil, "tick, true, jumpnot 9, tick, false, jumpnot 7, jump 9, tick, done, done")
	onFund(t, "while true {}", nil, nil, "tick, tick, true, jumpnot 5, jump 1, done")
	onFund(t, "while true { fail 1; } fail 2;", nil, nil, "tick, tick, true, jumpnot 7, tick, fail 1, jump 1, tick, fail 2, done")
	onFund(t, "while true { continue; }", nil, nil, "tick, tick, true, jumpnot 7, tick, jump 1, jump 1, done")
	onFund(t, "while true { break; break; }", nil, nil, "tick, tick, true, jumpnot 9, tick, jump 9, tick, jump 9, jump 1, done")
}

func TestP4_1Loops(t *testing.T) {
	onFund(t, "while true { while false { break; } continue; }", nil, nil, "tick, tick, true, jumpnot 14, tick, tick, false, jumpnot 11, tick, jump 11, jump 5, tick, jump 1, jump 1, done")
	onFund(t, "o: while true { p: while false { break o; break p; continue o; continue p; break; continue; } }", nil, nil,
		"tick, tick, true, jumpnot 22, tick, tick, false, jumpnot 21, tick, jump 22, tick, jump 21, tick, jump 1, tick, jump 5, tick, jump 21, tick, jump 5, jump 5, jump 1, done")
	// a label that an inner loop without one lies between; labels are names of their own
	onFund(t, "held: while true { while disputed { if true { break held; } } }", nil, nil,
		"tick, tick, true, jumpnot 15, tick, tick, env 7, jumpnot 14, tick, true, jumpnot 13, tick, jump 15, jump 5, jump 1, done")
	// one behind the other, of one label
	onFund(t, "o: while true { break o; } o: while false { continue o; }", nil, nil,
		"tick, tick, true, jumpnot 7, tick, jump 7, jump 1, tick, tick, false, jumpnot 14, tick, jump 8, jump 8, done")
}

func TestP4_1Expressions(t *testing.T) {
	onFund(t, "let a = not (true or false and disputed);", nil, []int{1}, "tick, true, skipyes 6, false, skipnot 6, env 7, not, put 0, done")
	onFund(t, "let a = true and false or disputed;", nil, []int{1}, "tick, true, skipnot 4, false, skipyes 6, env 7, put 0, done")
	onFund(t, "let a = true or false or disputed;", nil, []int{1}, "tick, true, skipyes 4, false, skipyes 6, env 7, put 0, done")
	for i, w := range inputWords {
		kind := 0
		if w == "disputed" {
			kind = 1
		}
		onFund(t, "let a = "+w+"; set a = a;", nil, []int{kind}, "tick, env "+string(rune('0'+i))+", put 0, tick, get 0, put 0, done")
	}
	onFund(t, "let a = buyer; set a = seller; set a = arbiter; set a = 2;", []uint64{1, 2, 3}, []int{0}, "tick, num 0, put 0, tick, num 1, put 0, tick, num 2, put 0, tick, num 1, put 0, done")
	for sign, word := range map[string]string{"==": "eq", "!=": "ne", "<": "lt", "<=": "le", ">": "gt", ">=": "ge"} {
		onFund(t, "let a = now "+sign+" 8;", []uint64{8}, []int{1}, "tick, env 3, num 0, "+word+", put 0, done")
	}
	for sign, word := range map[string]string{"+": "add", "-": "sub", "*": "mul", "/": "div", "%": "mod"} {
		onFund(t, "let a = now "+sign+" 8;", []uint64{8}, []int{0}, "tick, env 3, num 0, "+word+", put 0, done")
	}
	for sign, word := range map[string]string{"==": "eqb", "!=": "neb"} {
		for _, left := range []string{"true", "disputed", "not true", "(true or false)", "(1 < 2)", "b"} {
			p := compiled(t, "on fund { let b = true; let a = "+left+" "+sign+" disputed; }")
			if want := asm(word)[0]; !slices.Contains(p.Ins, want) || p.Slots[1] != 1 {
				t.Errorf("%s %s: %v has no %s", left, sign, p, word)
			}
		}
	}
	onFund(t, "let b = true; let a = b == (1 == 2);", []uint64{1, 2}, []int{1, 1}, "tick, true, put 0, tick, get 0, num 0, num 1, eq, eqb, put 1, done")
	onFund(t, "let a = min(1, 2); set a = max(a, 3); set a = share(a, 1, 4);", []uint64{1, 2, 3, 4}, []int{0}, "tick, num 0, num 1, min, put 0, tick, get 0, num 2, max, put 0, tick, get 0, num 0, num 3, share, put 0, done")
	onFund(t, "let a = 18446744073709551615 - 0;", []uint64{most, 0}, []int{0}, "tick, num 0, num 1, sub, put 0, done")
	onFund(t, "let a = 1 - (2 - 3) * 4;", []uint64{1, 2, 3, 4}, []int{0}, "tick, num 0, num 1, num 2, sub, num 3, mul, sub, put 0, done")
}

func TestP4_1Names(t *testing.T) {
	// a name that can no longer be seen gets a new slot, of its own kind
	onFund(t, "if true { let a = 1; set a = 2; } let a = true; set a = false;", []uint64{1, 2}, []int{0, 1},
		"tick, true, jumpnot 9, tick, num 0, put 0, tick, num 1, put 0, tick, true, put 1, tick, false, put 1, done")
	onFund(t, "let b = 1; if true { let a = b; } else { let a = true; } while false { let a = b; set b = a; }", []uint64{1}, []int{0, 0, 1, 0},
		"tick, num 0, put 0, tick, true, jumpnot 10, tick, get 0, put 1, jump 13, tick, true, put 2, tick, tick, false, jumpnot 24, tick, get 0, put 3, tick, get 3, put 0, jump 14, done")
	// rules have names of their own, and share constants
	hasProgram(t, "on expire { let a = 7; } on fund { let a = 7 == 8; } on release {}", []uint64{7, 8}, []int{0, 1}, [6]int{4, 10, -1, -1, -1, 0},
		"tick, num 0, put 0, done, tick, num 0, num 1, eq, put 1, done, done")
	// the numbers of require and fail are no constants
	onFund(t, "require true, 77; fail 78;", nil, nil, "tick, true, require 77, tick, fail 78, done")
}

func TestP4_1Rules(t *testing.T) {
	src := ""
	for i := range 6 {
		src += "on " + eventWords[(i*5+3)%6] + " { fail " + string(rune('1'+i)) + "; }"
	}
	p := compiled(t, src)
	for i := range 6 {
		event := (i*5 + 3) % 6
		if p.Entry[event] != 3*i || p.Ins[3*i+1] != (api.Ins{Op: api.CFail, Arg: i + 1}) {
			t.Errorf("the rule for %s begins at %d: %v", eventWords[event], p.Entry[event], p.Ins)
		}
	}
	for event, w := range eventWords {
		entry := nowhere
		entry[event] = 0
		hasProgram(t, "on "+w+" {}", nil, nil, entry, "done")
	}
}

func TestP4_1Refusals(t *testing.T) {
	wrong := [][]api.TermsNode{nil, {}, {{Op: api.TRules, N: 1}}, {{Op: api.TRules, N: 300}}, {{Op: 99}}, {{Op: -1}}, slices.Repeat([]api.TermsNode{{Op: api.TRules, N: 9}}, 400)}
	for _, body := range []string{"let a = 1; let a = 2;", "set held = 1;", "let a = a;", "require held, 1;", "let b = true == 1;", "break;", "continue o;", "if true or held { done; }", "pay x to 1;", "let held = 1;", "o: while true { o: while true {} }", "let a=1;let b=2;let c=3;let d=4;let e=5;let f=6;let g=7;let h=8;let i=9;", "pay 1 to true;"} {
		wrong = append(wrong, read(t, "on fund {"+body+"}"))
	}
	wrong = append(wrong, read(t, "on fund {} on fund {}"))
	long := read(t, "on fund { done; }")
	wrong = append(wrong, append(slices.Clone(long), api.TermsNode{Op: api.TDone}), long[:3])
	for _, list := range wrong {
		was := slices.Clone(list)
		why := terms.Check(list)
		if why == nil {
			t.Fatalf("%v is not wrong", list)
		}
		p, err := code.Compile(list)
		isLower(t, "Compile", err, why.(*api.Fault).At, why)
		if !same(p, api.Program{}) {
			t.Errorf("a program beside the fault: %v", p)
		}
		if !slices.Equal(list, was) {
			t.Errorf("the list is changed")
		}
	}
}

// fullTree gives a tree for fund of as many nodes as may be: so often one piece, and at the end as many TDone as there is room for.
func fullTree(piece []api.TermsNode, statements uint64, more ...api.TermsNode) []api.TermsNode {
	list := []api.TermsNode{{Op: api.TRules, N: 1}, {Op: api.TOn}, {Op: api.TBlock}}
	for len(list)+len(piece)+len(more) <= api.MaxTermsNodes {
		list = append(list, piece...)
		list[2].N += statements
	}
	if len(more) > 0 {
		list = append(list, more...)
		list[2].N++
	}
	for len(list) < api.MaxTermsNodes {
		list = append(list, api.TermsNode{Op: api.TDone})
		list[2].N++
	}
	return list
}

// Trees at the limits: most slots, most constants, most instructions, the highest stack.
func TestP4_1Limits(t *testing.T) {
	block := func(n uint64) api.TermsNode { return api.TermsNode{Op: api.TBlock, N: n} }
	yes := api.TermsNode{Op: api.TTrue}
	num := func(n uint64) api.TermsNode { return api.TermsNode{Op: api.TNum, N: n} }
	let := api.TermsNode{Op: api.TLet, Name: "a"}
	lists := [][]api.TermsNode{
		fullTree([]api.TermsNode{{Op: api.TIf}, yes, block(1), let, yes, block(0)}, 1),
		fullTree([]api.TermsNode{{Op: api.TWhile}, yes, block(0)}, 1),
		fullTree([]api.TermsNode{{Op: api.TIf}, yes, block(0), block(1), {Op: api.TDone}}, 1),
	}
	// most instructions of all: a loop has five from three nodes, and all inside it is such a loop too
	nested := []api.TermsNode{{Op: api.TRules, N: 1}, {Op: api.TOn}, {Op: api.TBlock}}
	var loops func(depth int)
	loops = func(depth int) {
		nested = append(nested, api.TermsNode{Op: api.TWhile}, yes, block(0))
		at := len(nested) - 1
		for depth+4 <= api.MaxTermsDepth && len(nested)+3 <= api.MaxTermsNodes && nested[at].N < 3 {
			nested[at].N++
			loops(depth + 2)
		}
	}
	for len(nested)+3 <= api.MaxTermsNodes {
		nested[2].N++
		loops(4)
	}
	lists = append(lists, nested)
	// a number of its own in as many places as may be
	many := []api.TermsNode{{Op: api.TRules, N: 1}, {Op: api.TOn}, {Op: api.TBlock}}
	for n := uint64(0); len(many)+3 <= api.MaxTermsNodes; n += 2 {
		many = append(many, api.TermsNode{Op: api.TPay}, num(n), num(n+1))
		many[2].N++
	}
	lists = append(lists, many)
	// the highest stack: a share in the last place of a share, and so on
	high := []api.TermsNode{{Op: api.TRules, N: 1}, {Op: api.TOn}, block(1), {Op: api.TPay}, num(1)}
	for depth := 5; depth < api.MaxTermsDepth; depth++ {
		high = append(high, api.TermsNode{Op: api.TCall, N: api.CallShare}, num(1), num(2))
	}
	lists = append(lists, append(high, num(3)))
	for _, list := range lists {
		if err := terms.Check(list); err != nil {
			t.Fatalf("%v: %v", list, err)
		}
		compilesRight(t, list)
	}
	p, _ := code.Compile(lists[3])
	if len(p.Ins) < 400 {
		t.Errorf("nested loops have only %d instructions", len(p.Ins))
	}
	if p, _ = code.Compile(lists[4]); len(p.Consts) != 168 {
		t.Errorf("%d constants", len(p.Consts))
	}
}

// compilesRight wants a tree that Check takes to have the program of the second compiler, verified and within the limits.
func compilesRight(t *testing.T, list []api.TermsNode) api.Program {
	t.Helper()
	was := slices.Clone(list)
	got, err := code.Compile(list)
	want := plainCompile(list)
	if err != nil || !same(got, want) {
		t.Errorf("Compile of %v:\n%v, %v, want\n%v", list, got, err, want)
	}
	if !slices.Equal(list, was) {
		t.Errorf("the list is changed")
	}
	noEmpty(t, "Compile", got)
	verified(t, got)
	if len(got.Ins) > api.MaxCodeIns || len(got.Consts) > api.MaxCodeConsts || len(got.Slots) > api.MaxCodeSlots {
		t.Errorf("beyond the limits: %d %d %d", len(got.Ins), len(got.Consts), len(got.Slots))
	}
	return got
}

// Many trees, held against the second compiler (P4.1); and terms mean what they say (P4.5).
func TestP4_1_5Any(t *testing.T) {
	d := &dice{2025}
	seen := map[api.TermsEnd]int{}
	steps := uint64(0)
	for range 6000 {
		list := someTree(d, 20+d.below(200))
		if err := terms.Check(list); err != nil {
			t.Fatalf("the test makes wrong terms: %v: %v", list, err)
		}
		p := compilesRight(t, list)
		tidy, err := code.Tidy(p)
		isFault(t, "Tidy", err, api.OK, 0)
		for range 6 {
			event, env, fuel := d.someEvent(p), d.someEnv(), d.someFuel()
			want, err := terms.Run(list, event, env, fuel)
			isFault(t, "terms.Run", err, api.OK, 0)
			runs(t, p, event, env, fuel, want)
			runs(t, tidy, event, env, fuel, want)
			seen[want.End]++
			steps += min(fuel, 1000) - want.Left
		}
		if t.Failed() {
			t.Fatalf("of %v", list)
		}
	}
	for _, e := range []api.TermsEnd{api.EndDone, api.EndFail, api.EndFuel, api.EndOver, api.EndZero, api.EndPot, api.EndParty, api.EndNone} {
		if seen[e] < 100 {
			t.Errorf("end %d was met %d times: the test has lost its aim", e, seen[e])
		}
	}
	if steps < 50000 {
		t.Errorf("only %d steps: the test has lost its aim", steps)
	}
}

// Terms mean what they say with every fuel up to what they need: the fuel runs out at each place where a step is counted.
func TestP4_5EveryFuel(t *testing.T) {
	for _, body := range []string{
		"", "done;", "fail 5;", "let a = 1; set a = a + 1; pay a to seller;", "require disputed, 4; require not disputed, 5;",
		"if disputed { pay 1 to 1; pay 2 to 2; } else { fail 2; } done;", "if not disputed { fail 1; } else if asked == 7 { pay 7 to 3; } else { fail 3; }",
		"let n = 0; while n < 5 { set n = n + 1; if n == 3 { continue; } pay n to buyer; }", "let n = 0; while true { set n = n + 1; if n == 4 { break; } }",
		"let n = 0; o: while n < 3 { let m = 0; while true { set m = m + 1; if m > n { set n = n + 1; continue o; } if n == 2 { break o; } pay m to 2; } } pay n to 3;",
		"pay 60 to 1; pay 40 to 2; pay 0 to 3; pay 1 to 1;", "pay 1 to 1; pay 1 to 4;", "let a = 3; while a > 0 { set a = a - 2; }", "let a = 3; while 6 / a > 0 { set a = a - 1; }", "while true {}", "while false { fail 1; }",
	} {
		list := read(t, "on fund {"+body+"}")
		p := compilesRight(t, list)
		tidy, _ := code.Tidy(p)
		for fuel := range uint64(60) {
			want, err := terms.Run(list, api.EvFund, told, fuel)
			isFault(t, "terms.Run", err, api.OK, 0)
			runs(t, p, api.EvFund, told, fuel, want)
			runs(t, tidy, api.EvFund, told, fuel, want)
			follows(t, p, api.EvFund, told, fuel)
		}
		for _, fuel := range []uint64{999, 1000, 1001, most} {
			want, _ := terms.Run(list, api.EvFund, told, fuel)
			runs(t, p, api.EvFund, told, fuel, want)
		}
	}
}

// What is handed out is new memory, also behind the ends of the lists.
func TestP4_1NewMemory(t *testing.T) {
	list := read(t, "on fund { let a = 7; let b = true; pay a to 3; }")
	first, _ := code.Compile(list)
	want := clone(first)
	first.Consts = append(first.Consts, 9)[:len(first.Consts)]
	first.Ins = append(first.Ins, api.Ins{Op: 9})[:len(first.Ins)]
	for i := range first.Ins {
		first.Ins[i] = api.Ins{}
	}
	for i := range first.Consts {
		first.Consts[i] = 5
	}
	for i := range first.Slots {
		first.Slots[i] = 8
	}
	if again, err := code.Compile(list); err != nil || !reflect.DeepEqual(again, want) {
		t.Errorf("Compile again: %v, %v", again, err)
	}
}
