package code_test

import (
	"math"
	"strconv"
	"testing"

	"quorum/api"
	"quorum/code"
)

// runs wants Run to answer that outcome.
func runs(t *testing.T, p api.Program, event int, env api.TermsEnv, fuel uint64, want api.TermsOutcome) {
	t.Helper()
	was := clone(p)
	got, err := code.Run(p, event, env, fuel)
	if err != nil || got != want {
		t.Errorf("Run of %v for %d with %d: %+v, %v, want %+v", p, event, fuel, got, err, want)
	}
	unchanged(t, p, was)
}

// ends wants a rule of these instructions to end so.
func ends(t *testing.T, text string, fuel uint64, want api.TermsOutcome) {
	t.Helper()
	runs(t, fund(text), api.EvFund, told, fuel, want)
}

func end(e api.TermsEnd, left uint64) api.TermsOutcome { return api.TermsOutcome{End: e, Left: left} }

func paid(buyer, seller, arbiter, left uint64) api.TermsOutcome {
	return api.TermsOutcome{Pay: [3]uint64{buyer, seller, arbiter}, Left: left}
}

func failed(code, left uint64) api.TermsOutcome {
	return api.TermsOutcome{End: api.EndFail, Fail: code, Left: left}
}

func TestP4_5Event(t *testing.T) {
	p := fund("tick, done")
	for _, e := range []int{-1, 6, 7, math.MinInt, math.MaxInt, 1 << 32} {
		out, err := code.Run(p, e, told, 5)
		isFault(t, "Run of an event that is none", err, api.ErrCodeEvent, 0)
		m, err := code.Load(p, e, told, 5)
		isFault(t, "Load of an event that is none", err, api.ErrCodeEvent, 0)
		if out != (api.TermsOutcome{}) || m != nil {
			t.Errorf("%v, %v beside the fault", out, m)
		}
	}
	refused(t, fund("tick, add"), api.ErrCodeEmpty, 1)
}

func TestP4_5Entry(t *testing.T) {
	p := bare("fail 1, fail 2, fail 3, fail 4, fail 5, fail 6")
	for e := range 6 {
		p.Entry[e] = 5 - e
	}
	for e := range 6 {
		runs(t, p, e, told, 9, failed(uint64(6-e), 9))
	}
	one := fund("done")
	for e := 1; e < 6; e++ {
		for fuel, left := range map[uint64]uint64{0: 0, 7: 7, 999: 999, 1000: 1000, 1001: 1000, most: 1000} {
			runs(t, one, e, told, fuel, end(api.EndNone, left))
		}
	}
}

func TestP4_5Fuel(t *testing.T) {
	for fuel, left := range map[uint64]uint64{1: 0, 2: 1, 999: 998, 1000: 999, 1001: 999, 1 << 63: 999, most: 999} {
		ends(t, "tick, done", fuel, end(api.EndDone, left))
	}
	ends(t, "done", 0, end(api.EndDone, 0))
	ends(t, "tick, done", 0, end(api.EndFuel, 0))
	for _, fuel := range []uint64{0, 1, 2, 999, 1000, most} {
		ends(t, "tick, jump 0", fuel, end(api.EndFuel, 0))
	}
	// a rule with ticks at many places runs dry at each of them, and nowhere else
	text := "tick, num 4, num 1, pay, tick, true, jumpnot 12, tick, num 1, num 2, pay, tick, tick, done"
	for fuel := range uint64(5) {
		ends(t, text, fuel, end(api.EndFuel, 0))
	}
	ends(t, text, 5, paid(5, 1, 0, 0))
	ends(t, text, 6, paid(5, 1, 0, 1))
	// rounds of a loop: each takes a tick, the last one none
	count := "num 0, put 0, tick, get 0, num 4, lt, jumpnot 12, get 0, num 1, add, put 0, jump 2, done"
	for fuel := range uint64(6) {
		ends(t, count, fuel, end(api.EndFuel, 0))
	}
	ends(t, count, 6, end(api.EndDone, 0))
	ends(t, count, 1000, end(api.EndDone, 994))
}

func TestP4_5Inputs(t *testing.T) {
	env := api.TermsEnv{Caller: 11, Amount: 12, Held: most, Now: 14, Opened: 15, Due: 16, Asked: 17}
	for i, want := range []uint64{11, 12, most, 14, 15, 16, 17} {
		runs(t, fund("env "+strconv.Itoa(i)+", num 2, pay, done"), api.EvFund, env, 9, paid(0, want, 0, 9))
	}
	for _, is := range []bool{false, true} {
		want := end(api.EndDone, 9)
		if !is {
			want = failed(8, 9)
		}
		runs(t, fund("env 7, require 8, done"), api.EvFund, api.TermsEnv{Disputed: is}, 9, want)
	}
}

// sums gives a rule that pays what an instruction makes of numbers to the buyer.
func sums(word string, n ...uint64) api.Program {
	p := fund("")
	p.Consts = append([]uint64{1}, n...)
	for i := range n {
		p.Ins = append(p.Ins, api.Ins{Op: api.CNum, Arg: i + 1})
	}
	p.Ins = append(p.Ins, asm(word+", num 0, pay, done")...)
	return p
}

func TestP4_5Sums(t *testing.T) {
	env := api.TermsEnv{Held: most}
	over, zero := end(api.EndOver, 3), end(api.EndZero, 3)
	is := func(n uint64) api.TermsOutcome { return paid(n, 0, 0, 3) }
	for _, c := range []struct {
		word string
		n    []uint64
		want api.TermsOutcome
	}{
		{"add", []uint64{2, 3}, is(5)}, {"add", []uint64{most, 0}, is(most)}, {"add", []uint64{0, most}, is(most)}, {"add", []uint64{most - 1, 1}, is(most)}, {"add", []uint64{most, 1}, over}, {"add", []uint64{1 << 63, 1 << 63}, over}, {"add", []uint64{most, most}, over},
		{"sub", []uint64{3, 2}, is(1)}, {"sub", []uint64{3, 3}, is(0)}, {"sub", []uint64{2, 3}, over}, {"sub", []uint64{0, most}, over}, {"sub", []uint64{most, 0}, is(most)}, {"sub", []uint64{most, most}, is(0)},
		{"mul", []uint64{6, 7}, is(42)}, {"mul", []uint64{0, most}, is(0)}, {"mul", []uint64{1, most}, is(most)}, {"mul", []uint64{1 << 32, 1 << 32}, over}, {"mul", []uint64{1<<32 - 1, 1<<32 + 1}, is(most)}, {"mul", []uint64{1 << 63, 2}, over}, {"mul", []uint64{most, most}, over},
		{"div", []uint64{7, 2}, is(3)}, {"div", []uint64{2, 7}, is(0)}, {"div", []uint64{most, 1}, is(most)}, {"div", []uint64{most, most}, is(1)}, {"div", []uint64{0, 5}, is(0)}, {"div", []uint64{5, 0}, zero}, {"div", []uint64{0, 0}, zero},
		{"mod", []uint64{7, 2}, is(1)}, {"mod", []uint64{2, 7}, is(2)}, {"mod", []uint64{most, 10}, is(5)}, {"mod", []uint64{0, 5}, is(0)}, {"mod", []uint64{5, 0}, zero}, {"mod", []uint64{0, 0}, zero},
		{"min", []uint64{2, 3}, is(2)}, {"min", []uint64{3, 2}, is(2)}, {"min", []uint64{0, most}, is(0)}, {"max", []uint64{2, 3}, is(3)}, {"max", []uint64{3, 2}, is(3)}, {"max", []uint64{0, most}, is(most)}, {"max", []uint64{most - 1, most}, is(most)},
		{"share", []uint64{100, 3, 7}, is(42)}, {"share", []uint64{most, most, most}, is(most)}, {"share", []uint64{most, most, most - 1}, over}, {"share", []uint64{most, 7, 7}, is(most)}, {"share", []uint64{most, 7, 6}, over}, {"share", []uint64{1 << 63, 2, 1}, over}, {"share", []uint64{1 << 63, 2, 2}, is(1 << 63)}, {"share", []uint64{5, 6, 0}, zero}, {"share", []uint64{most, most, 0}, zero}, {"share", []uint64{0, 0, 0}, zero}, {"share", []uint64{0, most, 1}, is(0)}, {"share", []uint64{1, 1, 2}, is(0)}, {"share", []uint64{most, 1, most}, is(1)},
	} {
		runs(t, sums(c.word, c.n...), api.EvFund, env, 3, c.want)
	}
	for _, word := range []string{"add", "sub", "mul", "div", "mod", "min", "max"} {
		for _, a := range someNumbers {
			for _, b := range someNumbers {
				p := sums(word, a, b)
				runs(t, p, api.EvFund, env, 3, plainRun(p, api.EvFund, env, 3))
				for _, c := range someNumbers {
					p := sums("share", a, b, c)
					runs(t, p, api.EvFund, env, 3, plainRun(p, api.EvFund, env, 3))
				}
			}
		}
	}
}

func TestP4_5Truths(t *testing.T) {
	holds := map[string]func(a, b uint64) bool{
		"eq": func(a, b uint64) bool { return a == b }, "ne": func(a, b uint64) bool { return a != b },
		"lt": func(a, b uint64) bool { return a < b }, "le": func(a, b uint64) bool { return a <= b },
		"gt": func(a, b uint64) bool { return a > b }, "ge": func(a, b uint64) bool { return a >= b },
	}
	outcome := func(is bool) api.TermsOutcome {
		if is {
			return end(api.EndDone, 1)
		}
		return failed(999, 1)
	}
	for word, is := range holds {
		for _, a := range someNumbers {
			for _, b := range someNumbers {
				p := fund("num 0, num 1, " + word + ", require 999, done")
				p.Consts = []uint64{a, b}
				runs(t, p, api.EvFund, told, 1, outcome(is(a, b)))
			}
		}
	}
	for _, a := range []string{"false", "true"} {
		ends(t, a+", not, require 999, done", 1, outcome(a == "false"))
		ends(t, a+", require 999, done", 1, outcome(a == "true"))
		for _, b := range []string{"false", "true"} {
			ends(t, a+", "+b+", eqb, require 999, done", 1, outcome(a == b))
			ends(t, a+", "+b+", neb, require 999, done", 1, outcome(a != b))
			ends(t, a+", skipnot 3, "+b+", require 999, done", 1, outcome(a == "true" && b == "true"))
			ends(t, a+", skipyes 3, "+b+", require 999, done", 1, outcome(a == "true" || b == "true"))
		}
	}
}

func TestP4_5Jumps(t *testing.T) {
	ends(t, "jump 2, fail 1, fail 2", 1, failed(2, 1))
	ends(t, "true, jumpnot 3, fail 1, fail 2", 1, failed(1, 1))
	ends(t, "false, jumpnot 3, fail 1, fail 2", 1, failed(2, 1))
	// what a skip leaves or takes shows in what lies below it
	for _, word := range []string{"skipnot", "skipyes"} {
		for _, top := range []string{"false", "true"} {
			stays := (top == "true") == (word == "skipyes")
			want := failed(2, 1)
			if stays && top == "true" || !stays {
				want = end(api.EndDone, 1)
			}
			ends(t, "true, "+top+", "+word+" 4, true, eqb, require 2, done", 1, want)
		}
	}
}

func TestP4_5Slots(t *testing.T) {
	// a slot begins with 0 or false
	ends(t, "get 0, num 1, pay, get 1, not, require 3, done", 1, end(api.EndDone, 1))
	ends(t, "num 4, put 0, true, put 1, get 0, get 0, add, num 3, pay, get 1, require 3, done", 1, paid(0, 0, 10, 1))
	ends(t, "num 4, put 0, num 2, put 0, get 0, num 1, pay, done", 1, paid(2, 0, 0, 1))
}

func TestP4_5Pay(t *testing.T) {
	pays := func(held uint64, amounts []uint64, to []uint64, want api.TermsOutcome) {
		t.Helper()
		p := fund("")
		p.Consts = append(append([]uint64{}, amounts...), to...)
		for i := range amounts {
			p.Ins = append(p.Ins, api.Ins{Op: api.CNum, Arg: i}, api.Ins{Op: api.CNum, Arg: len(amounts) + i}, api.Ins{Op: api.CPay})
		}
		p.Ins = append(p.Ins, api.Ins{Op: api.CDone})
		runs(t, p, api.EvFund, api.TermsEnv{Held: held}, 4, want)
	}
	pot, party := end(api.EndPot, 4), end(api.EndParty, 4)
	pays(100, []uint64{60, 40}, []uint64{2, 1}, paid(40, 60, 0, 4))
	pays(100, []uint64{60, 41}, []uint64{2, 1}, pot)
	pays(100, []uint64{30, 30, 40}, []uint64{3, 3, 3}, paid(0, 0, 100, 4))
	pays(100, []uint64{30, 30, 41}, []uint64{3, 2, 1}, pot)
	pays(100, []uint64{30, 31, 40}, []uint64{1, 2, 3}, pot)
	pays(0, []uint64{0, 0}, []uint64{1, 3}, paid(0, 0, 0, 4))
	pays(0, []uint64{1}, []uint64{1}, pot)
	pays(most, []uint64{most}, []uint64{3}, paid(0, 0, most, 4))
	pays(most, []uint64{most - 1, 1}, []uint64{3, 1}, paid(1, 0, most-1, 4))
	pays(most, []uint64{most, 1}, []uint64{3, 1}, pot)
	pays(most, []uint64{most, most}, []uint64{3, 1}, pot)
	for _, to := range []uint64{0, 4, 5, 1 << 32, 1<<32 + 1, 1 << 63, most} {
		pays(100, []uint64{1}, []uint64{to}, party)
		pays(100, []uint64{101}, []uint64{to}, party)
		pays(100, []uint64{5, 0}, []uint64{1, to}, party)
	}
	// what was paid is told only where the end is a good one
	ends(t, "num 4, num 1, pay, fail 7", 1, failed(7, 1))
	ends(t, "num 4, num 1, pay, false, require 8, done", 1, failed(8, 1))
	ends(t, "num 4, num 1, pay, num 1, num 0, div, done", 1, end(api.EndZero, 1))
	ends(t, "num 4, num 1, pay, num 0, num 1, sub, done", 1, end(api.EndOver, 1))
	ends(t, "num 4, num 1, pay, tick, done", 0, end(api.EndFuel, 0))
}

// Many programs, held against the second machine.
func TestP4_5Any(t *testing.T) {
	d := &dice{5}
	seen := map[api.TermsEnd]int{}
	for n := range 30000 {
		p := someProgram(d, 1+d.below(40))
		if n%100 == 0 {
			p = someProgram(d, 1000)
		}
		event, env, fuel := d.someEvent(p), d.someEnv(), d.someFuel()
		want := plainRun(p, event, env, fuel)
		seen[want.End]++
		runs(t, p, event, env, fuel, want)
	}
	for _, e := range []api.TermsEnd{api.EndDone, api.EndFail, api.EndFuel, api.EndOver, api.EndZero, api.EndPot, api.EndParty, api.EndNone} {
		if seen[e] < 30 {
			t.Errorf("end %d was met %d times: the test has lost its aim", e, seen[e])
		}
	}
}
