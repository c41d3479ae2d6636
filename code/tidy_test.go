package code_test

import (
	"slices"
	"testing"

	"quorum/api"
	"quorum/code"
)

// tidies wants Tidy to answer that program, and the same of it again.
func tidies(t *testing.T, p, want api.Program) {
	t.Helper()
	was := clone(p)
	for _, q := range []api.Program{p, want} {
		got, err := code.Tidy(q)
		if err != nil || !same(got, want) {
			t.Errorf("Tidy of %v:\n%v, %v, want\n%v", q, got, err, want)
		}
	}
	unchanged(t, p, was)
	verified(t, want)
}

// tidiesTo wants that of a program of one rule for fund, without looking at its constants.
func tidiesTo(t *testing.T, text, want string) {
	t.Helper()
	p := fund(text)
	p.Consts = []uint64{7}
	q := fund(want)
	q.Consts = nil
	if slices.Contains(q.Ins, api.Ins{Op: api.CNum}) {
		q.Consts = p.Consts
	}
	tidies(t, p, q)
}

func TestP4_4Reached(t *testing.T) {
	tidies(t, api.Program{Entry: nowhere}, api.Program{Entry: nowhere})
	tidies(t, api.Program{Consts: []uint64{1, 2}, Slots: []int{1, 0}, Entry: nowhere, Ins: asm("add, done")}, api.Program{Slots: []int{1, 0}, Entry: nowhere})
	tidiesTo(t, "tick, done, not, done", "tick, done")
	tidiesTo(t, "true, jumpnot 4, fail 1, add, fail 2", "true, jumpnot 3, fail 1, fail 2")
	tidiesTo(t, "tick, true, jumpnot 6, fail 1, not, not, tick, jump 0, done", "tick, true, jumpnot 4, fail 1, tick, jump 0")
	tidiesTo(t, "true, skipnot 5, true, jump 5, add, require 3, done", "true, skipnot 3, true, require 3, done")
	// entries move too
	p := bare("add, done, fail 1, add, fail 2, not, tick, fail 3")
	p.Entry = [6]int{6, -1, 2, 7, 4, 6}
	q := bare("fail 1, fail 2, tick, fail 3")
	q.Entry = [6]int{2, -1, 0, 3, 1, 2}
	tidies(t, p, q)
}

func TestP4_4Shorter(t *testing.T) {
	// a way over several jumps, of each kind
	tidiesTo(t, "true, jumpnot 3, fail 1, jump 5, fail 2, jump 7, fail 3, fail 4", "true, jumpnot 3, fail 1, fail 4")
	tidiesTo(t, "true, skipnot 4, tick, fail 1, jump 6, fail 2, jump 7, fail 4", "true, skipnot 4, tick, fail 1, fail 4")
	tidiesTo(t, "true, skipyes 4, tick, fail 1, jump 6, fail 2, jump 7, fail 4", "true, skipyes 4, tick, fail 1, fail 4")
	tidiesTo(t, "true, jumpnot 4, tick, jump 6, tick, jump 6, jump 8, done, fail 9", "true, jumpnot 4, tick, jump 5, tick, fail 9")
	// a way back, and a way that is turned into one
	tidiesTo(t, "tick, true, jumpnot 4, done, jump 0", "tick, true, jumpnot 0, done")
	tidiesTo(t, "tick, true, jumpnot 5, tick, jump 5, jump 0", "tick, true, jumpnot 0, tick, jump 0")
	tidiesTo(t, "tick, true, jumpnot 6, tick, true, jumpnot 9, jump 7, tick, done, jump 3, done", "tick, true, jumpnot 6, tick, true, jumpnot 3, tick, done")
	// to itself over a jump: a loop of one tick
	tidiesTo(t, "tick, jump 2, jump 0", "tick, jump 0")
	// an entry is not shortened
	p := bare("jump 2, fail 1, fail 2")
	p.Entry = [6]int{0, 1, -1, -1, -1, -1}
	q := p
	tidies(t, p, q)
	p = bare("jump 3, fail 1, tick, jump 5, fail 2, jump 7, fail 3, fail 4")
	p.Entry = [6]int{3, 2, 5, 0, -1, -1}
	q = bare("jump 2, tick, fail 4")
	q.Entry = [6]int{2, 1, 2, 0, -1, -1}
	tidies(t, p, q)
}

func TestP4_4Idle(t *testing.T) {
	tidiesTo(t, "jump 1, done", "done")
	tidiesTo(t, "jump 1, jump 2, jump 3, done", "done")
	tidiesTo(t, "tick, jump 2, true, jumpnot 4, jump 5, done", "tick, true, jumpnot 3, done")
	// one that goes makes the one ahead of it idle
	tidiesTo(t, "true, jumpnot 4, tick, jump 5, jump 5, done", "true, jumpnot 3, tick, done")
	// entries that led to one lead to what stands behind it
	p := bare("jump 1, fail 1, jump 4, fail 2, fail 3")
	p.Entry = [6]int{0, 1, 2, 3, 4, 0}
	q := bare("fail 1, jump 3, fail 2, fail 3")
	q.Entry = [6]int{0, 0, 1, 2, 3, 0}
	tidies(t, p, q)
	p = bare("true, skipnot 3, true, jump 4, require 5, jump 6, done")
	p.Entry = [6]int{-1, 0, 5, -1, -1, 6}
	q = bare("true, skipnot 3, true, require 5, done")
	q.Entry = [6]int{-1, 0, 4, -1, -1, 4}
	tidies(t, p, q)
	tidies(t, compiled(t, "on fund { if true { done; } else { } }"), func() api.Program {
		q := fund("tick, true, jumpnot 5, tick, done, done")
		q.Consts, q.Slots = nil, nil
		return q
	}())
}

func TestP4_4Constants(t *testing.T) {
	p := fund("num 6, num 2, pay, jump 5, num 3, num 4, num 2, pay, done")
	q := fund("num 2, num 0, pay, num 1, num 0, pay, done")
	q.Consts = []uint64{2, 5, most}
	tidies(t, p, q)
	// the same number twice stays twice
	p.Consts = []uint64{9, 9, 9, 9, 9, 9, 9}
	q.Consts = []uint64{9, 9, 9}
	tidies(t, p, q)
}

// A second, plainer way: each of the document's steps with one instruction or constant taken out at a time.

// drop takes an instruction out; what lies behind it moves up.
func drop(p api.Program, at int) api.Program {
	p = clone(p)
	p.Ins = slices.Delete(p.Ins, at, at+1)
	for i := range p.Ins {
		if isWay(wordOf(p.Ins[i])) && p.Ins[i].Arg > at {
			p.Ins[i].Arg--
		}
	}
	for e := range p.Entry {
		if p.Entry[e] > at {
			p.Entry[e]--
		}
	}
	return p
}

func dropUnreached(p api.Program) api.Program {
	shapes := judge(p).shapes
	for at := len(p.Ins) - 1; at >= 0; at-- {
		if _, known := shapes[at]; !known {
			p = drop(p, at)
		}
	}
	return p
}

func plainTidy(p api.Program) api.Program {
	p = dropUnreached(clone(p))
	for again := true; again; {
		again = false
		for at := len(p.Ins) - 1; at >= 0; at-- {
			if i := p.Ins[at]; isWay(wordOf(i)) && wordOf(p.Ins[i.Arg]) == "jump" {
				p.Ins[at].Arg = p.Ins[i.Arg].Arg
				again = true
			}
		}
	}
	p = dropUnreached(p)
	for at := 0; at < len(p.Ins); at++ {
		if wordOf(p.Ins[at]) == "jump" && p.Ins[at].Arg == at+1 {
			p = drop(p, at)
			at = -1
		}
	}
	for c := len(p.Consts) - 1; c >= 0; c-- {
		used := false
		for _, i := range p.Ins {
			used = used || wordOf(i) == "num" && i.Arg == c
		}
		if used {
			continue
		}
		p.Consts = slices.Delete(p.Consts, c, c+1)
		for at, i := range p.Ins {
			if wordOf(i) == "num" && i.Arg > c {
				p.Ins[at].Arg--
			}
		}
	}
	return clone(p)
}

// Many programs, held against the second way; and that a tidied one runs to the same outcome.
func TestP4_4Any(t *testing.T) {
	d := &dice{44}
	shorter := 0
	for n := range 6000 {
		p := someProgram(d, 1+d.below(40))
		if n%5 > 0 {
			p = jumpy(d, p)
		}
		if n%3 == 0 {
			list := someTree(d, 20+d.below(150))
			p, _ = code.Compile(list)
		}
		want := plainTidy(p)
		tidies(t, p, want)
		if len(want.Ins) < len(dropUnreached(p).Ins) {
			shorter++
		}
		for range 5 {
			event, env, fuel := d.someEvent(p), d.someEnv(), d.someFuel()
			runs(t, want, event, env, fuel, plainRun(p, event, env, fuel))
		}
		if t.Failed() {
			t.Fatalf("of %v", p)
		}
	}
	if shorter < 500 {
		t.Errorf("only %d programs became shorter by their ways: the test has lost its aim", shorter)
	}
}

// jumpy gives a verified program with jumps laid in between.
func jumpy(d *dice, p api.Program) api.Program {
	for range 12 {
		q := clone(p)
		if len(q.Ins) < 2 {
			return p
		}
		at := d.below(len(q.Ins))
		q.Ins[at] = api.Ins{Op: api.CJump, Arg: d.below(len(q.Ins))}
		if d.below(2) == 0 {
			q.Ins[at].Arg = min(at+1+d.below(3), len(q.Ins)-1)
		}
		if judge(q).why == api.OK {
			p = q
		}
	}
	return p
}

// What is handed out shares no memory with what was handed in.
func TestP4_4NewMemory(t *testing.T) {
	p := fund("num 0, num 1, pay, num 2, num 3, pay, num 4, num 5, pay, num 6, put 0, done")
	got, err := code.Tidy(p)
	if err != nil || !same(got, p) {
		t.Fatalf("Tidy: %v, %v", got, err)
	}
	was := clone(p)
	for i := range got.Ins {
		got.Ins[i] = api.Ins{Op: 9, Arg: 9}
	}
	for i := range got.Consts {
		got.Consts[i] = 99
	}
	for i := range got.Slots {
		got.Slots[i] = 9
	}
	unchanged(t, p, was)
}
