package code

import (
	"slices"

	"quorum/api"
)

// Tidy drops what no way reaches and shortens the ways (P4.4).
func Tidy(p api.Program) (api.Program, error) {
	p, err := reached(p)
	if err != nil {
		return api.Program{}, err
	}
	shortenWays(p.Ins)
	p, err = reached(p)
	if err != nil {
		return api.Program{}, err
	}
	p = withoutIdleJumps(p)
	p.Consts = trimConsts(p)
	return p, nil
}

// reached gives a program of new memory without the instructions that no way reaches, or what Verify refuses.
func reached(p api.Program) (api.Program, error) {
	shapes, err := walked(p)
	if err != nil {
		return api.Program{}, err
	}
	return filtered(p, func(at int) bool { return shapes[at].known }), nil
}

// filtered gives a program of new memory with the instructions that are kept. What led to one that is not leads to the next one behind it that is.
func filtered(p api.Program, kept func(at int) bool) api.Program {
	var ins []api.Ins
	moved := make([]int, len(p.Ins))
	for at := range p.Ins {
		moved[at] = len(ins)
		if kept(at) {
			ins = append(ins, p.Ins[at])
		}
	}
	for at, i := range ins {
		if isWay(i.Op) {
			ins[at].Arg = moved[i.Arg]
		}
	}
	for event, at := range p.Entry {
		if at >= 0 {
			p.Entry[event] = moved[at]
		}
	}
	return api.Program{Consts: copied(p.Consts), Slots: copied(p.Slots), Entry: p.Entry, Ins: ins}
}

// copied gives a list of new memory, nil if it has no element.
func copied[T any](list []T) []T { return append([]T(nil), list...) }

// shortenWays lets ways that lead to jumps lead to where those do. All the instructions are reached, so there is no ring of jumps.
func shortenWays(ins []api.Ins) {
	for at := range ins {
		for isWay(ins[at].Op) && ins[ins[at].Arg].Op == api.CJump {
			ins[at].Arg = ins[ins[at].Arg].Arg
		}
	}
}

// withoutIdleJumps takes out the jumps to the next place, one after the other: each that goes may make another one idle.
func withoutIdleJumps(p api.Program) api.Program {
	for {
		idle := idleJump(p.Ins)
		if idle < 0 {
			return p
		}
		p = filtered(p, func(at int) bool { return at != idle })
	}
}

// idleJump gives the first jump to the next place, -1 if there is none.
func idleJump(ins []api.Ins) int {
	for at, i := range ins {
		if i == (api.Ins{Op: api.CJump, Arg: at + 1}) {
			return at
		}
	}
	return -1
}

// trimConsts gives the constants that are still laid up, and lets the instructions that do it follow them to their new places.
func trimConsts(p api.Program) []uint64 {
	var used []uint64
	moved := make([]int, len(p.Consts))
	for at, n := range p.Consts {
		moved[at] = len(used)
		if slices.Contains(p.Ins, api.Ins{Op: api.CNum, Arg: at}) {
			used = append(used, n)
		}
	}
	for at, ins := range p.Ins {
		if ins.Op == api.CNum {
			p.Ins[at].Arg = moved[ins.Arg]
		}
	}
	return used
}
