package terms

import "quorum/api"

// Run carries out the rule for an event (P3.6, P3.7).
func Run(t []api.TermsNode, event int, env api.TermsEnv, fuel uint64) (api.TermsOutcome, error) {
	whole, err := treeOf(t)
	if err != nil {
		return api.TermsOutcome{}, err
	}
	if event < api.EvFund || event > api.EvExpire {
		return api.TermsOutcome{}, refusal(0, api.ErrTermsEvent)
	}
	r := run{tree: whole, given: given(env), held: env.Held, left: min(fuel, api.MaxFuel)}
	on := whole.rule(uint64(event))
	if on == 0 {
		return r.outcome(ending{end: api.EndNone}), nil
	}
	return r.outcome(r.carryOut(on)), nil
}

// run is a rule that is being carried out.
type run struct {
	tree
	given [len(inputs)]value
	vars  [api.MaxTermsNodes]value // what a variable has stands at the number of its TLet
	held  uint64
	paid  [3]uint64
	left  uint64
}

// ending is how a rule came to its end. Wherever that is, in statements and expressions inside others, the run stops there by a panic with it.
type ending struct {
	end  api.TermsEnd
	fail uint64
}

// leap is a break or a continue on its way to its loop; without one all is zero.
type leap struct {
	loop  int
	again bool
}

// carryOut carries out a rule and tells how it ended.
func (r *run) carryOut(on int) (e ending) {
	defer func() {
		if early, is := recover().(ending); is {
			e = early
		}
	}()
	r.block(on + 1)
	return ending{end: api.EndDone}
}

// outcome tells what came of a rule that ended so.
func (r *run) outcome(e ending) api.TermsOutcome {
	o := api.TermsOutcome{End: e.end, Fail: e.fail, Left: r.left}
	if e.end == api.EndDone {
		o.Pay = r.paid
	}
	return o
}

// stop ends the rule.
func (r *run) stop(end api.TermsEnd) { panic(ending{end: end}) }

// step takes one step of the fuel.
func (r *run) step() {
	if r.left == 0 {
		r.stop(api.EndFuel)
	}
	r.left--
}

// block carries out a block's statements, as far as none leaves it.
func (r *run) block(at int) leap {
	for part := range r.parts(at) {
		if l := r.statement(part); l != (leap{}) {
			return l
		}
	}
	return leap{}
}

func (r *run) statement(at int) leap {
	r.step()
	n := r.nodes[at]
	switch n.Op {
	case api.TLet:
		r.declare(at)
	case api.TSet:
		r.assign(at)
	case api.TIf:
		return r.choose(at)
	case api.TWhile:
		return r.repeat(at)
	case api.TBreak, api.TContinue:
		return r.leave(at)
	case api.TRequire:
		if !r.truth(at + 1) {
			panic(ending{api.EndFail, n.N})
		}
	case api.TPay:
		r.pay(at)
	case api.TFail:
		panic(ending{api.EndFail, n.N})
	case api.TDone:
		r.stop(api.EndDone)
	}
	return leap{}
}

func (r *run) declare(at int) {
	if r.letFault(at) != api.OK {
		r.stop(api.EndStuck)
	}
	r.vars[at] = r.value(at + 1)
}

func (r *run) assign(at int) {
	let := r.let(at, r.nodes[at].Name)
	if let == 0 {
		r.stop(api.EndStuck)
	}
	v := r.value(at + 1)
	if v.kind != r.vars[let].kind {
		r.stop(api.EndStuck)
	}
	r.vars[let] = v
}

func (r *run) choose(at int) leap {
	yes := r.ends[at+1]
	if r.truth(at + 1) {
		return r.block(yes)
	}
	return r.block(r.ends[yes])
}

// repeat carries out a loop. A leap that is this loop's own leaves the statements of the round, or the rounds too; one that aims at a loop around is handed on.
func (r *run) repeat(at int) leap {
	if r.labelTaken(at) {
		r.stop(api.EndStuck)
	}
rounds:
	for r.goesOn(at + 1) {
		for part := range r.parts(r.ends[at+1]) {
			l := r.statement(part)
			switch {
			case l == leap{}:
			case l.loop != at:
				return l
			case l.again:
				continue rounds
			default:
				break rounds
			}
		}
	}
	return leap{}
}

// goesOn makes a loop's test.
func (r *run) goesOn(test int) bool {
	r.step()
	return r.truth(test)
}

// leave gives the leap of a break or a continue.
func (r *run) leave(at int) leap {
	n := r.nodes[at]
	loop := r.loop(at, n.Name)
	if loop == 0 {
		r.stop(api.EndStuck)
	}
	return leap{loop: loop, again: n.Op == api.TContinue}
}

func (r *run) pay(at int) {
	amount := r.number(at + 1)
	party := r.number(r.ends[at+1])
	if party < api.Buyer || party > api.Arbiter {
		r.stop(api.EndParty)
	}
	if amount > r.held-r.paid[0]-r.paid[1]-r.paid[2] { // what is paid was never above what is held
		r.stop(api.EndPot)
	}
	r.paid[party-1] += amount
}
