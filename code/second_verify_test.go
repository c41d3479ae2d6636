package code_test

import (
	"slices"

	"quorum/api"
)

// A second, plainer way to verify: the document's rules one after the other, with lists of kinds.

// effect is what an instruction takes and lays up: n a number, t a truth, s of its slot's kind, e of its input's.
type effect struct{ takes, lays string }

// effects are the document's table, by word.
var effects = map[string]effect{
	"tick": {"", ""}, "num": {"", "n"}, "true": {"", "t"}, "false": {"", "t"}, "env": {"", "e"}, "get": {"", "s"}, "put": {"s", ""},
	"not": {"t", "t"}, "eq": {"nn", "t"}, "ne": {"nn", "t"}, "lt": {"nn", "t"}, "le": {"nn", "t"}, "gt": {"nn", "t"}, "ge": {"nn", "t"}, "eqb": {"tt", "t"}, "neb": {"tt", "t"},
	"add": {"nn", "n"}, "sub": {"nn", "n"}, "mul": {"nn", "n"}, "div": {"nn", "n"}, "mod": {"nn", "n"}, "min": {"nn", "n"}, "max": {"nn", "n"}, "share": {"nnn", "n"},
	"jump": {"", ""}, "jumpnot": {"t", ""}, "skipnot": {"t", ""}, "skipyes": {"t", ""}, "pay": {"nn", ""}, "require": {"t", ""}, "fail": {"", ""}, "done": {"", ""},
}

func wordOf(i api.Ins) string { return opWords[i.Op] }

// argRange gives the least and the greatest Arg that an instruction may have.
func argRange(p api.Program, word string) (int, int) {
	switch word {
	case "num":
		return 0, len(p.Consts) - 1
	case "env":
		return 0, 7
	case "get", "put":
		return 0, len(p.Slots) - 1
	case "jump", "jumpnot", "skipnot", "skipyes":
		return 0, len(p.Ins) - 1
	case "require", "fail":
		return 1, 999
	}
	return 0, 0
}

// kindsOf gives the kinds that letters stand for in an instruction of a program.
func kindsOf(p api.Program, i api.Ins, letters string) []int {
	var out []int
	for _, l := range letters {
		switch {
		case l == 's':
			out = append(out, p.Slots[i.Arg])
		case l == 't' || l == 'e' && i.Arg == 7:
			out = append(out, 1)
		default:
			out = append(out, 0)
		}
	}
	return out
}

// verdict is what a verifier tells: why is OK if it finds nothing; shapes has a list for each place that is reached (and none for the others).
type verdict struct {
	why    api.Errno
	at     int
	shapes map[int][]int
}

// judge verifies a program.
func judge(p api.Program) verdict {
	for i, n := range []int{len(p.Consts) - 256, len(p.Slots) - 128, len(p.Ins) - 1024} {
		if n > 0 {
			return verdict{why: api.ErrCodeLong, at: i}
		}
	}
	if i := slices.IndexFunc(p.Slots, func(k int) bool { return k != 0 && k != 1 }); i >= 0 {
		return verdict{why: api.ErrCodeSlot, at: i}
	}
	for e, at := range p.Entry {
		if at < -1 || at >= len(p.Ins) {
			return verdict{why: api.ErrCodeEntry, at: e}
		}
	}
	for at, i := range p.Ins {
		if i.Op < 1 || i.Op > 32 {
			return verdict{why: api.ErrCodeOp, at: at}
		}
		if least, greatest := argRange(p, wordOf(i)); i.Arg < least || i.Arg > greatest {
			return verdict{why: api.ErrCodeArg, at: at}
		}
	}
	v := verdict{shapes: map[int][]int{}}
	for _, at := range p.Entry {
		if at >= 0 {
			v.shapes[at] = nil
		}
	}
	for at := range p.Ins {
		if _, known := v.shapes[at]; known {
			if why := v.visit(p, at); why != api.OK {
				return verdict{why: why, at: at}
			}
		}
	}
	return v
}

// moves gives where the machine may go from a place, in the walk's order, and what lies there then; or why it may not stand there.
func moves(p api.Program, at int, here []int) ([]int, [][]int, api.Errno) {
	i := p.Ins[at]
	e := effects[wordOf(i)]
	takes, lays := kindsOf(p, i, e.takes), kindsOf(p, i, e.lays)
	if len(here) < len(takes) {
		return nil, nil, api.ErrCodeEmpty
	}
	rest, top := here[:len(here)-len(takes)], here[len(here)-len(takes):]
	if !slices.Equal(top, takes) {
		return nil, nil, api.ErrCodeKind
	}
	after := append(slices.Clone(rest), lays...)
	if len(after) > 64 {
		return nil, nil, api.ErrCodeDeep
	}
	switch wordOf(i) {
	case "fail", "done":
		return nil, nil, api.OK
	case "jump":
		return []int{i.Arg}, [][]int{after}, api.OK
	case "jumpnot":
		return []int{i.Arg, at + 1}, [][]int{after, after}, api.OK
	case "skipnot", "skipyes":
		return []int{i.Arg, at + 1}, [][]int{here, after}, api.OK
	}
	return []int{at + 1}, [][]int{after}, api.OK
}

func (v *verdict) visit(p api.Program, at int) api.Errno {
	to, kinds, why := moves(p, at, v.shapes[at])
	if why != api.OK {
		return why
	}
	for n, j := range to {
		if j == len(p.Ins) {
			return api.ErrCodeEnd
		}
		if j <= at && wordOf(p.Ins[j]) != "tick" {
			return api.ErrCodeLoop
		}
		was, known := v.shapes[j]
		if known != true && j <= at || known && !slices.Equal(was, kinds[n]) {
			return api.ErrCodeMerge
		}
		v.shapes[j] = kinds[n]
	}
	return api.OK
}
