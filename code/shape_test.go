package code_test

import (
	"math"
	"slices"
	"testing"

	"quorum/api"
	"quorum/code"
)

// hasShape wants a place to be reached with operands of these kinds, a letter each.
func hasShape(t *testing.T, p api.Program, at int, letters string) {
	t.Helper()
	want := kindsOf(p, api.Ins{}, letters)
	got, known, err := code.Shape(p, at)
	if err != nil || !known || !slices.Equal(got, want) || want == nil && got != nil {
		t.Errorf("the shape of %d: %v, %v, %v, want %v", at, got, known, err, want)
	}
}

func TestP4_3Shape(t *testing.T) {
	p := fund("num 1, get 1, env 6, env 7, put 1, get 0, done")
	for at, letters := range []string{"", "n", "nt", "ntn", "ntnt", "ntn", "ntnn"} {
		hasShape(t, p, at, letters)
	}
	p = fund("num 1, true, jumpnot 6, done, tick, add, num 2, add, true, skipnot 11, true, done")
	for at, letters := range []string{"", "n", "nt", "n", "-", "-", "n", "nn", "n", "nt", "n", "nt"} {
		if letters != "-" {
			hasShape(t, p, at, letters)
			continue
		}
		if got, known, err := code.Shape(p, at); got != nil || known || err != nil {
			t.Errorf("the shape of %d, which nothing reaches: %v, %v, %v", at, got, known, err)
		}
	}
	high := fund(times(32, "num 1, true,") + "done")
	hasShape(t, high, 64, times(32, "nt"))
	hasShape(t, high, 63, times(31, "nt")+"n")
}

func TestP4_3NoPlace(t *testing.T) {
	p := fund("tick, done, done")
	for _, at := range []int{-1, 3, 4, math.MinInt, math.MaxInt, 1 << 32} {
		kinds, known, err := code.Shape(p, at)
		isFault(t, "Shape", err, api.ErrCodeArg, at)
		if kinds != nil || known {
			t.Errorf("%v, %v beside the fault", kinds, known)
		}
	}
	_, _, err := code.Shape(bare(""), 0)
	isFault(t, "Shape of nothing", err, api.ErrCodeArg, 0)
	_, _, err = code.Shape(fund("add"), 7)
	isFault(t, "Shape", err, api.ErrCodeEmpty, 0)
}

// What is handed out is new each time.
func TestP4_3NewMemory(t *testing.T) {
	p := fund("num 1, true, num 1, done")
	first, _, _ := code.Shape(p, 3)
	for i := range first {
		first[i] = 7
	}
	hasShape(t, p, 3, "ntn")
}
