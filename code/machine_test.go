package code_test

import (
	"reflect"
	"testing"

	"quorum/api"
	"quorum/code"
)

// load gives a machine.
func load(t *testing.T, p api.Program, event int, env api.TermsEnv, fuel uint64) *code.Machine {
	t.Helper()
	m, err := code.Load(p, event, env, fuel)
	if err != nil || m == nil {
		t.Fatalf("Load of %v: %v, %v", p, m, err)
	}
	return m
}

// stands wants a machine to be like the second one.
func stands(t *testing.T, m *code.Machine, want *plainMachine) {
	t.Helper()
	if got := m.State(); !reflect.DeepEqual(got, want.state()) {
		t.Errorf("State: %+v, want %+v", got, want.state())
	}
	out, over := m.Outcome()
	if over != want.over || over && out != want.outcome() || !over && out != (api.TermsOutcome{}) {
		t.Errorf("Outcome: %+v, %v, want %+v, %v", out, over, want.outcome(), want.over)
	}
}

// follows wants a machine to do step by step what the second one does, with the shapes that Shape tells, and gives how it ended.
func follows(t *testing.T, p api.Program, event int, env api.TermsEnv, fuel uint64) api.TermsEnd {
	t.Helper()
	shapes := judge(p).shapes
	m, want := load(t, p, event, env, fuel), newPlain(p, event, env, fuel)
	stands(t, m, want)
	for !want.over {
		kinds := shapes[want.at]
		s := m.State()
		if len(s.Stack) != len(kinds) {
			t.Fatalf("at %d lie %v, the shape is %v", s.At, s.Stack, kinds)
		}
		for i, v := range s.Stack {
			if v.Kind != kinds[i] || v.Kind == api.KindBool && v.N > 1 {
				t.Fatalf("at %d lie %v, the shape is %v", s.At, s.Stack, kinds)
			}
		}
		want.step()
		if !m.Step() {
			t.Fatalf("Step is false at %d", s.At)
		}
		stands(t, m, want)
		if t.Failed() {
			t.Fatalf("behind the step at %d", s.At)
		}
	}
	for range 3 {
		if m.Step() {
			t.Errorf("Step is true at the end")
		}
		stands(t, m, want)
	}
	return want.end
}

func TestP4_6First(t *testing.T) {
	p := fund("tick, true, put 1, done")
	for fuel, left := range map[uint64]uint64{0: 0, 1: 1, 1000: 1000, 1001: 1000, most: 1000} {
		m := load(t, p, api.EvFund, told, fuel)
		want := api.CodeState{At: 0, Slots: []api.CodeValue{{Kind: 0}, {Kind: 1}}, Left: left}
		if got := m.State(); !reflect.DeepEqual(got, want) {
			t.Errorf("at first: %+v, want %+v", got, want)
		}
		if out, over := m.Outcome(); over || out != (api.TermsOutcome{}) {
			t.Errorf("an outcome ahead of the first step: %v, %v", out, over)
		}
	}
	p = bare("fail 1, done")
	p.Entry[2] = 1
	if s := load(t, p, api.EvDispute, told, 5).State(); !reflect.DeepEqual(s, api.CodeState{At: 1, Left: 5}) {
		t.Errorf("without slots: %+v", s)
	}
}

func TestP4_6NoRule(t *testing.T) {
	m := load(t, fund("done"), api.EvExpire, told, 1001)
	want := api.CodeState{At: -1, Slots: []api.CodeValue{{Kind: 0}, {Kind: 1}}, Left: 1000, Over: true}
	for range 2 {
		if got := m.State(); !reflect.DeepEqual(got, want) {
			t.Errorf("State: %+v, want %+v", got, want)
		}
		if out, over := m.Outcome(); !over || out != end(api.EndNone, 1000) {
			t.Errorf("Outcome: %v, %v", out, over)
		}
		if m.Step() {
			t.Errorf("Step is true")
		}
	}
}

// At the end all is as the last instruction left it, its operands taken.
func TestP4_6End(t *testing.T) {
	three := api.CodeValue{Kind: 0, N: 3}
	for _, c := range []struct {
		text  string
		fuel  uint64
		want  api.TermsOutcome
		stack []api.CodeValue
		paid  [3]uint64
	}{
		{"num 3, done", 2, end(api.EndDone, 2), []api.CodeValue{three}, [3]uint64{}},
		{"num 3, true, done", 2, end(api.EndDone, 2), []api.CodeValue{three, {Kind: 1, N: 1}}, [3]uint64{}},
		{"num 3, fail 4", 2, failed(4, 2), []api.CodeValue{three}, [3]uint64{}},
		{"num 3, false, require 5, done", 2, failed(5, 2), []api.CodeValue{three}, [3]uint64{}},
		{"num 3, tick, done", 0, end(api.EndFuel, 0), []api.CodeValue{three}, [3]uint64{}},
		{"num 3, num 6, num 1, add, done", 2, end(api.EndOver, 2), []api.CodeValue{three}, [3]uint64{}},
		{"num 3, num 0, num 1, sub, done", 2, end(api.EndOver, 2), []api.CodeValue{three}, [3]uint64{}},
		{"num 3, num 6, num 6, mul, done", 2, end(api.EndOver, 2), []api.CodeValue{three}, [3]uint64{}},
		{"num 3, num 6, num 0, div, done", 2, end(api.EndZero, 2), []api.CodeValue{three}, [3]uint64{}},
		{"num 3, num 6, num 0, mod, done", 2, end(api.EndZero, 2), []api.CodeValue{three}, [3]uint64{}},
		{"num 3, num 6, num 6, num 0, share, done", 2, end(api.EndZero, 2), []api.CodeValue{three}, [3]uint64{}},
		{"num 3, num 6, num 6, num 1, share, done", 2, end(api.EndOver, 2), []api.CodeValue{three}, [3]uint64{}},
		{"num 4, num 2, pay, num 3, num 6, num 1, pay, done", 2, end(api.EndPot, 2), []api.CodeValue{three}, [3]uint64{0, 5, 0}},
		{"num 4, num 3, pay, num 3, num 1, num 4, pay, done", 2, end(api.EndParty, 2), []api.CodeValue{three}, [3]uint64{0, 0, 5}},
		{"num 4, num 1, pay, num 3, done", 2, paid(5, 0, 0, 2), []api.CodeValue{three}, [3]uint64{5, 0, 0}},
		{"num 4, num 1, pay, num 3, fail 6", 2, failed(6, 2), []api.CodeValue{three}, [3]uint64{5, 0, 0}},
	} {
		m := load(t, fund("num 2, put 0, true, put 1,"+c.text), api.EvFund, told, c.fuel)
		for m.Step() {
		}
		want := api.CodeState{At: -1, Stack: c.stack, Slots: []api.CodeValue{{Kind: 0, N: 2}, {Kind: 1, N: 1}}, Left: c.want.Left, Paid: c.paid, Over: true}
		if got := m.State(); !reflect.DeepEqual(got, want) {
			t.Errorf("%s: %+v, want %+v", c.text, got, want)
		}
		if out, over := m.Outcome(); !over || out != c.want {
			t.Errorf("%s: %+v, %v, want %+v", c.text, out, over, c.want)
		}
	}
}

func TestP4_6StepByStep(t *testing.T) {
	follows(t, fund("tick, num 1, num 2, add, put 0, get 0, num 3, eq, skipnot 11, env 7, not, jumpnot 13, fail 3, done"), api.EvFund, told, 3)
	follows(t, compiled(t, "on fund { let n = 0; while n < 3 { set n = n + 1; } pay n to seller; pay held to buyer; }"), api.EvFund, told, 50)
	// the greatest height
	follows(t, fund(times(64, "num 1,")+times(63, "add,")+"num 2, pay, done"), api.EvFund, told, 1)
	follows(t, fund(times(64, "true,")+times(63, "eqb,")+"require 6, done"), api.EvFund, told, 1)
}

// Many programs, held against the second machine at every step.
func TestP4_6Any(t *testing.T) {
	d := &dice{6}
	seen := map[api.TermsEnd]int{}
	for range 4000 {
		p := someProgram(d, 1+d.below(30))
		event := d.someEvent(p)
		seen[follows(t, p, event, d.someEnv(), d.someFuel()%60)]++
		if t.Failed() {
			t.Fatalf("of %v for %d", p, event)
		}
	}
	for _, e := range []api.TermsEnd{api.EndDone, api.EndFail, api.EndFuel, api.EndOver, api.EndZero, api.EndPot, api.EndParty, api.EndNone} {
		if seen[e] < 5 {
			t.Errorf("end %d was met %d times: the test has lost its aim", e, seen[e])
		}
	}
}

// A machine has a copy of its program, and what it tells is new memory.
func TestP4_6OwnMemory(t *testing.T) {
	p := fund("num 3, true, num 4, put 0, not, put 1, get 0, num 1, pay, num 2, pay, done")
	m, want := load(t, p, api.EvFund, told, 9), newPlain(clone(p), api.EvFund, told, 9)
	for want.step() {
		for i := range p.Ins {
			p.Ins[i] = api.Ins{Op: 99, Arg: -5}
		}
		for i := range p.Consts {
			p.Consts[i] = 77
		}
		for i := range p.Slots {
			p.Slots[i] = 9
		}
		m.Step()
		s := m.State()
		for i := range s.Stack {
			s.Stack[i] = api.CodeValue{Kind: 8, N: 8}
		}
		for i := range s.Slots {
			s.Slots[i] = api.CodeValue{Kind: 8, N: 8}
		}
		_ = append(s.Stack, api.CodeValue{Kind: 8, N: 8})
		_ = append(s.Slots, api.CodeValue{Kind: 8, N: 8})
		stands(t, m, want)
	}
}

// Two machines of one program do not touch each other.
func TestP4_6Two(t *testing.T) {
	p := compiled(t, "on fund { let n = 0; while n < 9 { set n = n + 1; pay n to buyer; } }")
	a, b := load(t, p, api.EvFund, told, 30), load(t, p, api.EvFund, told, 7)
	wantA, wantB := newPlain(p, api.EvFund, told, 30), newPlain(p, api.EvFund, told, 7)
	for !wantA.over || !wantB.over {
		if a.Step() != wantA.step() || b.Step() != wantB.step() {
			t.Errorf("Step tells another thing than it should")
		}
		stands(t, a, wantA)
		stands(t, b, wantB)
	}
}

// A machine that Load did not make.
func TestP4_6Zero(t *testing.T) {
	var none *code.Machine
	for _, m := range []*code.Machine{none, {}, new(code.Machine)} {
		for range 2 {
			if m.Step() {
				t.Errorf("Step is true")
			}
			if s := m.State(); !reflect.DeepEqual(s, api.CodeState{}) {
				t.Errorf("State: %+v", s)
			}
			if out, over := m.Outcome(); over || out != (api.TermsOutcome{}) {
				t.Errorf("Outcome: %v, %v", out, over)
			}
		}
	}
}
