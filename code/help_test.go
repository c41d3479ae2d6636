package code_test

import (
	"errors"
	"reflect"
	"slices"
	"strconv"
	"strings"
	"testing"

	"quorum/api"
	"quorum/code"
	"quorum/terms"
)

const most = 1<<64 - 1

// The words of the document, in its order.
var (
	opWords    = strings.Fields("- tick num true false env get put not eq ne lt le gt ge eqb neb add sub mul div mod min max share jump jumpnot skipnot skipyes pay require fail done")
	inputWords = strings.Fields("caller amount held now opened due asked disputed")
	eventWords = strings.Fields("fund release dispute arbitrate refund expire")
)

// nowhere are the entries of a program without a rule.
var nowhere = [6]int{-1, -1, -1, -1, -1, -1}

// told has another value in each field.
var told = api.TermsEnv{Caller: 2, Amount: 120, Held: 100, Now: 9, Opened: 4, Due: 20, Asked: 7, Disputed: true}

// isFault wants a fault of this layer with just that number and place; none, if why is OK.
func isFault(t *testing.T, what string, err error, why api.Errno, at int) {
	t.Helper()
	if why == api.OK {
		if err != nil {
			t.Errorf("%s: %v, want no fault", what, err)
		}
		return
	}
	f, ok := err.(*api.Fault)
	if !ok || f == nil {
		t.Errorf("%s: %v is no fault, want %d at %d", what, err, why, at)
		return
	}
	if f.Layer != "code" || f.At != at || f.Err != error(why) || !errors.Is(err, why) {
		t.Errorf("%s: refused with %v, want %d at %d", what, err, why, at)
	}
}

// isLower wants a fault of this layer at that place, with the fault of a lower layer behind it as that layer tells it.
func isLower(t *testing.T, what string, err error, at int, lower error) {
	t.Helper()
	f, ok := err.(*api.Fault)
	if !ok || f == nil || f.Layer != "code" || f.At != at {
		t.Errorf("%s: %v, want a fault of code at %d", what, err, at)
		return
	}
	if g, ok := f.Err.(*api.Fault); !ok || g == nil || lower == nil || !reflect.DeepEqual(f.Err, lower) {
		t.Errorf("%s: behind it %v, want %v", what, f.Err, lower)
	}
}

// asm gives the instructions of a text: words and Args, with a comma between two.
func asm(text string) []api.Ins {
	var out []api.Ins
	for _, line := range strings.Split(text, ",") {
		f := strings.Fields(line)
		if len(f) == 0 {
			continue
		}
		i := api.Ins{Op: api.CodeOp(slices.Index(opWords, f[0]))}
		if i.Op < 1 {
			panic("no such word: " + f[0])
		}
		if len(f) > 1 {
			n, err := strconv.Atoi(f[1])
			if err != nil {
				panic(err)
			}
			i.Arg = n
		}
		out = append(out, i)
	}
	return out
}

// fund gives a program of one rule, for fund, that begins at 0. It has the constants 0, 1, 2, 3, 5, 100 and the greatest number, and the slots 0 (a number) and 1 (a truth).
func fund(text string) api.Program {
	return api.Program{Consts: []uint64{0, 1, 2, 3, 5, 100, most}, Slots: []int{0, 1}, Entry: [6]int{0, -1, -1, -1, -1, -1}, Ins: asm(text)}
}

// bare gives a program without a rule.
func bare(text string) api.Program { return api.Program{Entry: nowhere, Ins: asm(text)} }

// times writes a text so often.
func times(n int, text string) string { return strings.Repeat(text, n) }

// read gives the tree of a text.
func read(t testing.TB, src string) []api.TermsNode {
	t.Helper()
	list, err := terms.Parse(src)
	if err != nil {
		t.Fatalf("Parse(%q): %v", src, err)
	}
	return list
}

// compiled gives the program of a text.
func compiled(t testing.TB, src string) api.Program {
	t.Helper()
	p, err := code.Compile(read(t, src))
	if err != nil {
		t.Fatalf("Compile(%q): %v", src, err)
	}
	return p
}

// same tells whether two programs are the same; a list without elements must be nil in both.
func same(a, b api.Program) bool { return reflect.DeepEqual(a, b) }

// clone gives a program of memory of its own.
func clone(p api.Program) api.Program {
	return api.Program{Consts: append([]uint64(nil), p.Consts...), Slots: append([]int(nil), p.Slots...), Entry: p.Entry, Ins: append([]api.Ins(nil), p.Ins...)}
}

// noEmpty wants a program's lists without elements to be nil.
func noEmpty(t *testing.T, what string, p api.Program) {
	t.Helper()
	if p.Consts != nil && len(p.Consts) == 0 || p.Slots != nil && len(p.Slots) == 0 || p.Ins != nil && len(p.Ins) == 0 {
		t.Errorf("%s: an empty list that is not nil: %#v", what, p)
	}
}

// dice gives numbers that look like any, the same ones in every run.
type dice struct{ state uint64 }

func (d *dice) below(n int) int {
	d.state = d.state*6364136223846793005 + 1442695040888963407
	return int((d.state ^ d.state>>29) >> 3 % uint64(n))
}

// one gives one of the things.
func one[T any](d *dice, things []T) T { return things[d.below(len(things))] }

var someNumbers = []uint64{0, 1, 2, 3, 5, 7, 100, 1 << 32, 1<<63 - 1, 1 << 63, most - 1, most}

func (d *dice) number() uint64 { return one(d, someNumbers) }

// someEnv gives what a rule may be told.
func (d *dice) someEnv() api.TermsEnv {
	return api.TermsEnv{Caller: uint64(d.below(4)), Amount: d.number(), Held: d.number(), Now: d.number(), Opened: d.number(), Due: d.number(), Asked: d.number(), Disputed: d.below(2) == 0}
}

// someFuel gives steps of which many are just enough, or just not.
func (d *dice) someFuel() uint64 {
	return one(d, []uint64{0, 1, 2, 3, 4, 5, 6, 8, 13, 20, 50, 100, 999, 1000, 1001, most})
}

// someEvent gives an event, mostly one that a program has a rule for.
func (d *dice) someEvent(p api.Program) int {
	event := d.below(6)
	for try := d.below(16); p.Entry[event] < 0 && try > 0; try-- {
		event = d.below(6)
	}
	return event
}
