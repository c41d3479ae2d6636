package terms

import "quorum/api"

// Check tells whether names, kinds, labels and events are right (P3.5). The nodes are gone through by their numbers: what is wrong with one shows in it and in those ahead of it, so the first that is found is the one to tell.
func Check(t []api.TermsNode) error {
	whole, err := treeOf(t)
	if err != nil {
		return err
	}
	for at := range whole.nodes {
		if why := whole.fault(at); why != api.OK {
			return refusal(at, why)
		}
	}
	return nil
}

// fault tells what is wrong with a node, if nothing is with those ahead of it.
func (t *tree) fault(at int) api.Errno {
	n := t.nodes[at]
	switch {
	case n.Op == api.TOn && t.rule(n.N) != at:
		return api.ErrTermsEvent
	case n.Op == api.TLet:
		return t.letFault(at)
	case n.Op == api.TSet && t.let(at, n.Name) == 0:
		return api.ErrTermsName
	case n.Op == api.TVar && !t.isSeen(at):
		return api.ErrTermsName
	case n.Op == api.TWhile && t.labelTaken(at):
		return api.ErrTermsLabel
	case (n.Op == api.TBreak || n.Op == api.TContinue) && t.loop(at, n.Name) == 0:
		return api.ErrTermsLabel
	case shapeOf(n.Op).place == anExpression && !t.isWanted(at):
		return api.ErrTermsKind
	}
	return api.OK
}

// isSeen tells whether a TVar's name can be seen.
func (t *tree) isSeen(at int) bool {
	name := t.nodes[at].Name
	_, is := inputAt(name)
	return is || t.let(at, name) != 0
}

// isWanted tells whether an expression is of a kind that its place lets stand there.
func (t *tree) isWanted(at int) bool {
	wanted := t.wanted(at)
	return wanted == either || t.kind(at) == wanted
}

// wanted tells which kind an expression's place wants.
func (t *tree) wanted(at int) kind {
	above := t.above[at]
	n := t.nodes[above]
	switch n.Op {
	case api.TIf, api.TWhile, api.TRequire, api.TNot:
		return truth
	case api.TPay, api.TCall:
		return number
	case api.TSet:
		return t.kind(t.let(above, n.Name) + 1)
	case api.TBin:
		if takes := operators[n.N].takes; takes != either || at == above+1 {
			return takes
		}
		return t.kind(above + 1)
	}
	return either
}

// kind tells the kind of an expression all whose names can be seen.
func (t *tree) kind(at int) kind {
	n := t.nodes[at]
	switch n.Op {
	case api.TNum, api.TCall:
		return number
	case api.TBin:
		return operators[n.N].gives
	case api.TVar:
		if i, is := inputAt(n.Name); is {
			return inputs[i].kind
		}
		return t.kind(t.let(at, n.Name) + 1)
	}
	return truth
}
