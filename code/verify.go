package code

import "quorum/api"

// Verify tells whether a program is well-formed and its operands always fit (P4.2).
func Verify(p api.Program) error {
	_, err := walked(p)
	return err
}

// Shape tells the kinds of the operands that lie there ahead of an instruction, the lowest first, and whether any way leads there (P4.3).
func Shape(p api.Program, at int) ([]int, bool, error) {
	shapes, err := walked(p)
	if err != nil {
		return nil, false, err
	}
	if !isPlace(at, len(shapes)) {
		return nil, false, refusal(at, api.ErrCodeArg)
	}
	var kinds []int
	for _, letter := range shapes[at].kinds {
		if letter == truth {
			kinds = append(kinds, api.KindBool)
		} else {
			kinds = append(kinds, api.KindNum)
		}
	}
	return kinds, shapes[at].known, nil
}

// shape is what the walk knows of a place; kinds is empty as long as nothing is known.
type shape struct {
	known bool
	kinds string
}

// walk is a program that is looked over, and what is known of each of its places.
type walk struct {
	api.Program
	shapes []shape
}

// walked verifies a program and gives the shapes that the walk has found. All that it calls gives up by a panic with the fault.
func walked(p api.Program) (shapes []shape, err error) {
	defer func() {
		if f, is := recover().(*api.Fault); is {
			shapes, err = nil, f
		}
	}()
	w := walk{Program: p}
	w.checkSizes()
	w.checkSlots()
	w.checkEntries()
	w.checkInstructions()
	w.goThrough()
	return w.shapes, nil
}

// giveUp ends the verifying, or the reading, of a program from however deep inside.
func giveUp(at int, why api.Errno) { panic(refusal(at, why)) }

// isPlace tells whether a number is a place in a list of that many.
func isPlace(at, many int) bool { return at >= 0 && at < many }

func (w *walk) checkSizes() {
	switch {
	case len(w.Consts) > api.MaxCodeConsts:
		giveUp(0, api.ErrCodeLong)
	case len(w.Slots) > api.MaxCodeSlots:
		giveUp(1, api.ErrCodeLong)
	case len(w.Ins) > api.MaxCodeIns:
		giveUp(2, api.ErrCodeLong)
	}
}

func (w *walk) checkSlots() {
	for i, kind := range w.Slots {
		if kind != api.KindNum && kind != api.KindBool {
			giveUp(i, api.ErrCodeSlot)
		}
	}
}

func (w *walk) checkEntries() {
	for event, at := range w.Entry {
		if at != -1 && !isPlace(at, len(w.Ins)) {
			giveUp(event, api.ErrCodeEntry)
		}
	}
}

func (w *walk) checkInstructions() {
	for at, ins := range w.Ins {
		switch {
		case !isOp(ins.Op):
			giveUp(at, api.ErrCodeOp)
		case !w.isArg(ins):
			giveUp(at, api.ErrCodeArg)
		}
	}
}

// isArg tells whether an instruction may have its Arg.
func (w *walk) isArg(ins api.Ins) bool {
	switch forms[ins.Op].arg {
	case aConst:
		return isPlace(ins.Arg, len(w.Consts))
	case anInput:
		return isPlace(ins.Arg, len(inputs))
	case aSlot:
		return isPlace(ins.Arg, len(w.Slots))
	case aPlace:
		return isPlace(ins.Arg, len(w.Ins))
	case aFailure:
		return ins.Arg >= 1 && ins.Arg <= api.MaxTermsFail
	}
	return ins.Arg == 0
}

// goThrough is the walk itself. Once over the places is enough: a way back may add nothing to what is known of where it leads.
func (w *walk) goThrough() {
	w.shapes = make([]shape, len(w.Ins))
	for _, at := range w.Entry {
		if at >= 0 {
			w.shapes[at].known = true
		}
	}
	for at, ins := range w.Ins {
		if w.shapes[at].known {
			w.visit(at, ins)
		}
	}
}

// visit looks at an instruction that is reached, and hands on what lies there behind it.
func (w *walk) visit(at int, ins api.Ins) {
	before := w.shapes[at].kinds
	takes := w.kinds(forms[ins.Op].takes, ins.Arg)
	lays := w.kinds(forms[ins.Op].lays, ins.Arg)
	rest := len(before) - len(takes)
	switch {
	case rest < 0:
		giveUp(at, api.ErrCodeEmpty)
	case before[rest:] != takes:
		giveUp(at, api.ErrCodeKind)
	case rest+len(lays) > api.MaxCodeStack:
		giveUp(at, api.ErrCodeDeep)
	}
	after := before[:rest] + lays
	switch ins.Op {
	case api.CFail, api.CDone:
	case api.CJump:
		w.hand(at, ins.Arg, after)
	case api.CSkipNot, api.CSkipYes:
		w.hand(at, ins.Arg, before)
		w.hand(at, at+1, after)
	case api.CJumpNot:
		w.hand(at, ins.Arg, after)
		fallthrough
	default:
		w.hand(at, at+1, after)
	}
}

// kinds gives a column of the table of forms for an instruction with that Arg.
func (w *walk) kinds(column string, arg int) string {
	var kind int
	switch column {
	case ofSlot:
		kind = w.Slots[arg]
	case ofInput:
		kind = inputs[arg].kind
	default:
		return column
	}
	if kind == api.KindBool {
		return string(truth)
	}
	return string(number)
}

// hand tells a place what lies there when the machine comes from another one.
func (w *walk) hand(from, to int, kinds string) {
	handed := shape{known: true, kinds: kinds}
	back := to <= from
	switch {
	case to >= len(w.Ins):
		giveUp(from, api.ErrCodeEnd)
	case back && w.Ins[to].Op != api.CTick:
		giveUp(from, api.ErrCodeLoop)
	case w.shapes[to] == handed: // known already, and no other one
	case back || w.shapes[to].known:
		giveUp(from, api.ErrCodeMerge)
	default:
		w.shapes[to] = handed
	}
}
