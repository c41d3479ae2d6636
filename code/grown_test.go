package code_test

import (
	"slices"

	"quorum/api"
)

// programmer makes programs that are verified, by laying down at each place an instruction that fits what lies there.
type programmer struct {
	*dice
	p       api.Program
	size    int
	pending map[int][]int // the shapes that are known so far
	ticks   []int         // the places that a way back may lead to
}

// someProgram gives a verified program of at most so many instructions.
func someProgram(d *dice, size int) api.Program {
	g := &programmer{dice: d, size: size, pending: map[int][]int{}}
	g.p.Entry = nowhere
	for range d.below(6) {
		g.p.Consts = append(g.p.Consts, one(d, []uint64{d.number(), uint64(1 + d.below(3))}))
	}
	for range d.below(5) {
		g.p.Slots = append(g.p.Slots, d.below(2))
	}
	for at := range size {
		here, known := g.pending[at]
		if event := d.below(6); !known && g.p.Entry[event] < 0 && (at == 0 || d.below(4) == 0) {
			g.p.Entry[event] = at
			here, known = nil, true
		}
		if known {
			g.pending[at] = here
			g.lay(at, here)
		} else {
			g.p.Ins = append(g.p.Ins, g.any())
		}
	}
	return g.p
}

// any gives an instruction that no rule but that of its Arg holds for.
func (g *programmer) any() api.Ins {
	for {
		word := one(g.dice, opWords[1:])
		least, greatest := argRange(g.p, word)
		if isWay(word) {
			greatest = g.size - 1
		}
		if greatest >= least {
			return api.Ins{Op: api.CodeOp(slices.Index(opWords, word)), Arg: least + g.below(greatest-least+1)}
		}
	}
}

func isWay(word string) bool { return slices.Contains(opWords[25:29], word) }

// fitting gives an instruction that is likely to suit what lies there.
func (g *programmer) fitting(at int, here []int) api.Ins {
	i := g.any()
	if g.below(5) == 0 {
		i = api.Ins{Op: api.CTick}
	}
	if n := len(here); n >= 2 && here[n-1]+here[n-2] == 0 && g.below(5) == 0 {
		i = api.Ins{Op: api.CPay}
	}
	word := wordOf(i)
	if isWay(word) {
		i.Arg = min(g.size-1, at+1+g.below(6))
		if len(g.ticks) > 0 && g.below(3) == 0 {
			i.Arg = one(g.dice, g.ticks)
		}
	}
	return i
}

// lay lays down an instruction with which all that is known stays true.
func (g *programmer) lay(at int, here []int) {
	g.p.Ins = append(g.p.Ins, api.Ins{})
	for try := range 40 {
		i := g.fitting(at, here)
		g.p.Ins[at] = i
		if try == 39 {
			g.p.Ins[at] = api.Ins{Op: api.CDone}
		}
		if i.Op >= api.CFail && try < 10 { // rules shall not be all too short
			continue
		}
		if g.takes(at, here) {
			break
		}
	}
	if g.p.Ins[at].Op == api.CTick {
		g.ticks = append(g.ticks, at)
	}
}

// takes tells whether the instruction may stand there, and notes what it hands on if so.
func (g *programmer) takes(at int, here []int) bool {
	to, kinds, why := moves(g.p, at, here)
	if why != api.OK {
		return false
	}
	next := map[int][]int{}
	for n, j := range to {
		was, known := g.pending[j]
		if again, twice := next[j]; twice {
			was, known = again, true
		}
		if j >= g.size || known && !slices.Equal(was, kinds[n]) {
			return false
		}
		if j <= at && (j == at || wordOf(g.p.Ins[j]) != "tick" || !known) {
			return false
		}
		next[j] = kinds[n]
	}
	for j, k := range next {
		g.pending[j] = k
	}
	return true
}

// spoilt gives a program with something turned, so that it is likely to be refused.
func spoilt(d *dice, p api.Program) api.Program {
	p = clone(p)
	for range 1 + d.below(2) {
		if len(p.Ins) == 0 || d.below(12) == 0 {
			p.Entry[d.below(6)] = d.below(len(p.Ins)+3) - 2
			continue
		}
		i := &p.Ins[d.below(len(p.Ins))]
		switch d.below(8) {
		case 0, 1, 2:
			i.Op = api.CodeOp(1 + d.below(32))
		case 3, 4:
			i.Arg = d.below(len(p.Ins))
		case 5:
			*i = one(d, p.Ins)
		case 6:
			at := d.below(len(p.Ins))
			p.Ins = slices.Delete(p.Ins, at, at+1)
		default:
			i.Arg += d.below(3) - 1
			if d.below(10) == 0 {
				i.Op += api.CodeOp(d.below(3) - 1)
			}
		}
		if len(p.Slots) > 0 && d.below(10) == 0 {
			p.Slots[d.below(len(p.Slots))] ^= 1
		}
	}
	return p
}
