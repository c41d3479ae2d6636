package code_test

import (
	"math"
	"slices"
	"testing"

	"quorum/api"
	"quorum/code"
)

// refused wants Verify to refuse a program, and all the calls that refuse what Verify does to do it alike.
func refused(t *testing.T, p api.Program, why api.Errno, at int) {
	t.Helper()
	was := clone(p)
	isFault(t, "Verify", code.Verify(p), why, at)
	kinds, known, err := code.Shape(p, -1)
	isFault(t, "Shape", err, why, at)
	if kinds != nil || known {
		t.Errorf("Shape: %v, %v beside the fault", kinds, known)
	}
	tidy, err := code.Tidy(p)
	isFault(t, "Tidy", err, why, at)
	if !same(tidy, api.Program{}) {
		t.Errorf("Tidy: %v beside the fault", tidy)
	}
	out, err := code.Run(p, -1, told, 9)
	isFault(t, "Run", err, why, at)
	if out != (api.TermsOutcome{}) {
		t.Errorf("Run: %v beside the fault", out)
	}
	m, err := code.Load(p, 6, told, 9)
	isFault(t, "Load", err, why, at)
	if m != nil {
		t.Errorf("Load: a machine beside the fault")
	}
	b, err := code.Pack(p)
	isFault(t, "Pack", err, why, at)
	if b != nil {
		t.Errorf("Pack: % x beside the fault", b)
	}
	text, err := code.List(p)
	isFault(t, "List", err, why, at)
	if text != "" {
		t.Errorf("List: %s beside the fault", text)
	}
	unchanged(t, p, was)
}

// verified wants Verify to find nothing.
func verified(t *testing.T, p api.Program) {
	t.Helper()
	was := clone(p)
	if err := code.Verify(p); err != nil {
		t.Errorf("Verify of %v: %v", p, err)
	}
	unchanged(t, p, was)
}

// unchanged wants a program to be what it was.
func unchanged(t *testing.T, p, was api.Program) {
	t.Helper()
	if !slices.Equal(p.Consts, was.Consts) || !slices.Equal(p.Slots, was.Slots) || p.Entry != was.Entry || !slices.Equal(p.Ins, was.Ins) {
		t.Errorf("a program that was handed in is changed: %v, was %v", p, was)
	}
}

func TestP4_2Sizes(t *testing.T) {
	full := api.Program{Consts: make([]uint64, 256), Slots: make([]int, 128), Entry: nowhere, Ins: slices.Repeat(asm("done"), 1024)}
	verified(t, full)
	verified(t, api.Program{Entry: nowhere})
	verified(t, api.Program{Consts: []uint64{}, Slots: []int{}, Entry: nowhere, Ins: []api.Ins{}})
	for at := range 3 {
		p := clone(full)
		if at <= 2 {
			p.Ins = append(p.Ins, api.Ins{Op: 77})
		}
		if at <= 1 {
			p.Slots = append(p.Slots, 9)
		}
		if at == 0 {
			p.Consts = append(p.Consts, 1)
		}
		p.Entry[3] = -7
		refused(t, p, api.ErrCodeLong, at)
	}
	many := full
	many.Consts = make([]uint64, 1<<20)
	refused(t, many, api.ErrCodeLong, 0)
}

func TestP4_2Slots(t *testing.T) {
	verified(t, api.Program{Slots: []int{0, 1, 1, 0}, Entry: nowhere})
	for _, kind := range []int{-1, 2, 3, math.MinInt, math.MaxInt, 1 << 32, 1<<32 + 1} {
		refused(t, api.Program{Slots: []int{0, 1, kind, 5}, Entry: [6]int{7, 8}, Ins: asm("add")}, api.ErrCodeSlot, 2)
	}
	last := make([]int, 128)
	last[127] = 2
	refused(t, api.Program{Slots: last, Entry: nowhere}, api.ErrCodeSlot, 127)
}

func TestP4_2Entries(t *testing.T) {
	refused(t, api.Program{}, api.ErrCodeEntry, 0)
	for event := range 6 {
		for _, at := range []int{-2, 2, 3, math.MinInt, math.MaxInt, 1 << 32} {
			p := bare("done, done")
			p.Entry[event] = at
			if event < 5 {
				p.Entry[5] = -3
			}
			p.Ins[0].Op = 99
			refused(t, p, api.ErrCodeEntry, event)
		}
		for _, at := range []int{-1, 0, 1} {
			p := bare("done, done")
			p.Entry[event] = at
			verified(t, p)
		}
	}
}

func TestP4_2Ops(t *testing.T) {
	for _, op := range []api.CodeOp{0, -1, 33, 34, 255, 256, 257, 1 << 32, 1<<32 + 1, math.MinInt, math.MaxInt} {
		for _, arg := range []int{0, 5, -1} {
			p := bare("done, done, done, done")
			p.Ins[2] = api.Ins{Op: op, Arg: arg}
			p.Ins[3].Arg = 1
			refused(t, p, api.ErrCodeOp, 2)
		}
	}
}

func TestP4_2Args(t *testing.T) {
	for op := api.CTick; op <= api.CDone; op++ {
		p := fund("done, done, done")
		p.Ins[1].Op = op
		least, greatest := argRange(p, opWords[op])
		for _, arg := range []int{least, greatest, (least + greatest) / 2} {
			p.Ins[1].Arg = arg
			verified(t, p)
		}
		for _, arg := range []int{least - 1, greatest + 1, math.MinInt, math.MaxInt, 1 << 32, -1 << 32, 1<<32 + 1} {
			p.Ins[1].Arg = arg
			p.Ins[2] = api.Ins{Op: 0}
			refused(t, p, api.ErrCodeArg, 1)
		}
	}
	for _, word := range []string{"num 0", "get 0", "put 0"} {
		refused(t, bare(word), api.ErrCodeArg, 0)
	}
	for _, word := range []string{"jump 1", "jumpnot 1", "skipnot 1", "skipyes 1"} {
		refused(t, bare(word), api.ErrCodeArg, 0)
	}
	p := bare("num 255, get 127, put 127, jump 1023" + times(1020, ",done"))
	p.Consts, p.Slots = make([]uint64, 256), make([]int, 128)
	verified(t, p)
}

// laidUp gives instructions that lay up operands of these kinds.
func laidUp(kinds []int) string {
	text := ""
	for _, k := range kinds {
		text += []string{"num 1,", "true,"}[k]
	}
	return text
}

// Each instruction, with what it takes, with less, with other kinds, and at the greatest height.
func TestP4_2Operands(t *testing.T) {
	for op := api.CTick; op <= api.CDone; op++ {
		word := opWords[op]
		for _, arg := range []int{0, 1, 7} {
			if word != "env" && word != "get" && word != "put" && arg > 0 || arg == 7 && word != "env" {
				continue
			}
			e := effects[word]
			i := api.Ins{Op: op, Arg: arg}
			takes, lays := kindsOf(fund(""), i, e.takes), kindsOf(fund(""), i, e.lays)
			for under := range 3 {
				fits(t, i, slices.Repeat([]int{under % 2}, under), takes, lays)
			}
			for n := range len(takes) {
				fails(t, i, takes[:n], api.ErrCodeEmpty)
				wrong := slices.Clone(takes)
				wrong[n] ^= 1
				fails(t, i, wrong, api.ErrCodeKind)
				fails(t, i, append([]int{0, 1}, wrong...), api.ErrCodeKind)
			}
			for _, under := range []int{0, 1} {
				high := slices.Repeat([]int{under}, 64-len(takes))
				if len(lays) > len(takes) {
					fails(t, i, high, api.ErrCodeDeep)
					high = high[1:]
				}
				fits(t, i, high, takes, lays)
			}
		}
	}
}

// with gives a program in which an instruction stands behind others that lay up operands of these kinds, and its place.
func with(i api.Ins, kinds []int) (api.Program, int) {
	p := fund(laidUp(kinds))
	at := len(p.Ins)
	switch {
	case isWay(wordOf(i)):
		i.Arg = at + 2
	case i.Op == api.CRequire || i.Op == api.CFail:
		i.Arg = 5
	}
	p.Ins = append(p.Ins, i, api.Ins{Op: api.CDone}, api.Ins{Op: api.CDone})
	return p, at
}

func fails(t *testing.T, i api.Ins, kinds []int, why api.Errno) {
	t.Helper()
	p, at := with(i, kinds)
	refused(t, p, why, at)
}

// fits wants an instruction to be taken, and to leave what the table says.
func fits(t *testing.T, i api.Ins, under, takes, lays []int) {
	t.Helper()
	before := slices.Concat(under, takes)
	p, at := with(i, before)
	verified(t, p)
	is := func(at int, kinds []int, reached bool) {
		t.Helper()
		got, known, err := code.Shape(p, at)
		if err != nil || known != reached || !slices.Equal(got, kinds) {
			t.Errorf("the shape of %d in %v: %v, %v, %v, want %v, %v", at, p.Ins, got, known, err, kinds, reached)
		}
	}
	is(at, before, true)
	after := slices.Concat(under, lays)
	switch wordOf(i) {
	case "fail", "done":
		is(at+1, nil, false)
		is(at+2, nil, false)
	case "jump":
		is(at+1, nil, false)
		is(at+2, after, true)
	case "jumpnot":
		is(at+1, after, true)
		is(at+2, after, true)
	case "skipnot", "skipyes":
		is(at+1, after, true)
		is(at+2, before, true)
	default:
		is(at+1, after, true)
		is(at+2, nil, false)
	}
}

func TestP4_2Ways(t *testing.T) {
	for _, word := range []string{"tick", "true", "num 0", "get 1", "env 0", "true, not", "num 1, put 0", "num 1, num 2, pay", "true, require 5", "true, jumpnot 0", "true, skipnot 0", "true, skipyes 1"} {
		p := fund(word)
		last := len(p.Ins) - 1
		why := api.ErrCodeEnd
		if isWay(wordOf(p.Ins[last])) { // the Arg is looked at ahead of the next place
			why = api.ErrCodeLoop
		}
		refused(t, p, why, last)
	}
	refused(t, fund("tick, true, jumpnot 0"), api.ErrCodeEnd, 2)
	for _, word := range []string{"done", "fail 999", "tick, jump 0", "fail 1, add"} {
		verified(t, fund(word))
	}
	for _, c := range []struct {
		text string
		why  api.Errno
		at   int
	}{
		{"jump 1, jump 0", api.ErrCodeLoop, 1}, {"jump 1, jump 1", api.ErrCodeLoop, 1}, {"true, jumpnot 1, done", api.ErrCodeLoop, 1}, {"true, skipnot 1, done", api.ErrCodeLoop, 1}, {"true, skipyes 0, done", api.ErrCodeLoop, 1},
		{"tick, true, jumpnot 0, done", api.OK, 0}, {"tick, true, skipnot 0, done", api.ErrCodeMerge, 2}, {"true, tick, skipnot 1, done", api.OK, 0}, {"true, tick, skipyes 1, done", api.OK, 0}, {"num 0, tick, true, skipyes 1, done", api.ErrCodeMerge, 3},
		{"jump 2, tick, jump 1", api.ErrCodeMerge, 2}, {"jump 2, tick, tick, jump 1", api.ErrCodeMerge, 3}, {"jump 2, done, jump 1", api.ErrCodeLoop, 2}, {"jump 2, add, jump 1", api.ErrCodeLoop, 2}, {"tick, num 1, jump 0", api.ErrCodeMerge, 2}, {"true, tick, not, num 1, num 1, eq, eqb, jump 1", api.OK, 0}, {"true, tick, num 2, eq, jump 1", api.ErrCodeKind, 3},
		{"true, tick, require 4, num 2, jump 1", api.ErrCodeMerge, 4}, {"num 1, tick, put 0, num 1, jump 1", api.OK, 0}, {"num 1, tick, put 0, true, jump 1", api.ErrCodeMerge, 4}, {"num 1, tick, put 0, num 1, num 1, jump 1", api.ErrCodeMerge, 5},
		{"true, jumpnot 3, tick, done", api.OK, 0}, {"true, jumpnot 3, true, done", api.ErrCodeMerge, 2}, {"true, jumpnot 4, true, jump 4, done", api.ErrCodeMerge, 3}, {"true, jumpnot 4, num 1, jump 5, true, done", api.ErrCodeMerge, 4}, {"true, jumpnot 4, true, jump 5, true, done", api.OK, 0}, {"true, jumpnot 2, done", api.OK, 0}, {"true, skipnot 2, done", api.ErrCodeMerge, 1}, {"true, skipyes 2, done", api.ErrCodeMerge, 1},
		{"true, true, jumpnot 5, not, done, not, done", api.OK, 0}, {"true, true, jumpnot 5, num 1, done, add, done", api.ErrCodeEmpty, 5}, {"true, true, jumpnot 4, num 1, done", api.ErrCodeMerge, 3},
		{"done, not", api.OK, 0}, {"jump 2, tick, done", api.OK, 0}, {"fail 1, jump 1", api.OK, 0}, {"done, jump 2, jump 1", api.OK, 0},
	} {
		if c.why == api.OK {
			verified(t, fund(c.text))
		} else {
			refused(t, fund(c.text), c.why, c.at)
		}
	}
}

func TestP4_2ManyEntries(t *testing.T) {
	for _, c := range []struct {
		text  string
		entry [6]int
		why   api.Errno
		at    int
	}{
		{"done", [6]int{0, 0, 0, 0, 0, 0}, api.OK, 0},
		{"true, done, not, done", [6]int{-1, -1, -1, -1, -1, 2}, api.ErrCodeEmpty, 2},
		{"true, done, not, done", [6]int{0, -1, -1, -1, -1, -1}, api.OK, 0},
		{"true, not, done", [6]int{0, -1, -1, 1, -1, -1}, api.ErrCodeMerge, 0},
		{"tick, tick, done", [6]int{0, 1, 2, 1, -1, 0}, api.OK, 0},
		{"true, jumpnot 3, done, tick, done", [6]int{0, 3, -1, -1, -1, -1}, api.OK, 0},
		{"true, skipnot 3, done, tick, done", [6]int{0, 3, -1, -1, -1, -1}, api.ErrCodeMerge, 1},
		// a way back leads to a place that an entry alone makes known
		{"jump 2, tick, tick, jump 1", [6]int{0, 1, -1, -1, -1, -1}, api.OK, 0},
		{"jump 2, tick, true, jump 1", [6]int{0, 1, -1, -1, -1, -1}, api.ErrCodeMerge, 3},
		{"jump 3, tick, done, true, jump 1", [6]int{0, 1, -1, -1, -1, -1}, api.ErrCodeMerge, 4},
		// the lower place is looked at first, whichever rule leads there
		{"add, not", [6]int{1, 0, -1, -1, -1, -1}, api.ErrCodeEmpty, 0},
		{"done, not, add", [6]int{2, 1, 0, -1, -1, -1}, api.ErrCodeEmpty, 1},
	} {
		p := fund(c.text)
		p.Entry = c.entry
		if c.why == api.OK {
			verified(t, p)
		} else {
			refused(t, p, c.why, c.at)
		}
	}
}

// Where several reasons apply: each of these is one fault of each kind, of which the ones ahead are mended one after the other.
func TestP4_2Order(t *testing.T) {
	p := api.Program{Consts: make([]uint64, 257), Slots: make([]int, 129), Entry: [6]int{0, -1, 3000, -1, -1, -1}, Ins: slices.Repeat(asm("done"), 1025)}
	p.Slots[7] = 3
	p.Ins[20].Op = 50
	p.Ins[10].Arg = 1
	p.Ins[0] = api.Ins{Op: api.CAdd}
	refused(t, p, api.ErrCodeLong, 0)
	p.Consts = p.Consts[:256]
	refused(t, p, api.ErrCodeLong, 1)
	p.Slots = p.Slots[:128]
	refused(t, p, api.ErrCodeLong, 2)
	p.Ins = p.Ins[:1024]
	refused(t, p, api.ErrCodeSlot, 7)
	p.Slots[7] = 1
	refused(t, p, api.ErrCodeEntry, 2)
	p.Entry[2] = 1023
	refused(t, p, api.ErrCodeArg, 10)
	p.Ins[10].Arg = 0
	refused(t, p, api.ErrCodeOp, 20)
	p.Ins[20].Op = api.CDone
	refused(t, p, api.ErrCodeEmpty, 0)
	p.Ins[0].Op = api.CTick
	verified(t, p)
	// an operand too few is told ahead of its kind, that ahead of the height
	refused(t, fund("true, share"), api.ErrCodeEmpty, 1)
	refused(t, fund(times(62, "num 1,")+"true, num 1, num 1, put 1, done"), api.ErrCodeDeep, 64)
	refused(t, fund(times(62, "num 1,")+"true, num 1, put 1, done"), api.ErrCodeKind, 64)
}

// Many programs, most of them with something wrong, held against the second way.
func TestP4_2Any(t *testing.T) {
	d := &dice{4}
	seen := map[api.Errno]int{}
	for n := range 20000 {
		p := someProgram(d, 1+d.below(30))
		if n%4 > 0 {
			p = spoilt(d, p)
		}
		want := judge(p)
		seen[want.why]++
		isFault(t, "Verify", code.Verify(p), want.why, want.at)
		if n%4 == 0 && want.why != api.OK {
			t.Errorf("the test makes a wrong program")
		}
		if want.why == api.OK {
			shapesAre(t, p, want.shapes)
		} else if n%20 == 1 {
			refused(t, p, want.why, want.at)
		}
		if t.Failed() {
			t.Fatalf("of %v", p)
		}
	}
	for _, why := range []api.Errno{api.OK, api.ErrCodeEntry, api.ErrCodeOp, api.ErrCodeArg, api.ErrCodeEmpty, api.ErrCodeKind, api.ErrCodeMerge, api.ErrCodeLoop, api.ErrCodeEnd} {
		if seen[why] < 40 {
			t.Errorf("%d was met %d times: the test has lost its aim", why, seen[why])
		}
	}
}

// shapesAre wants Shape to tell these for each place.
func shapesAre(t *testing.T, p api.Program, want map[int][]int) {
	t.Helper()
	for at := range p.Ins {
		kinds, reached := want[at]
		got, known, err := code.Shape(p, at)
		if err != nil || known != reached || !slices.Equal(got, kinds) || got != nil && len(got) == 0 {
			t.Errorf("the shape of %d: %v, %v, %v, want %v, %v", at, got, known, err, kinds, reached)
		}
	}
}
