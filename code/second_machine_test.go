package code_test

import (
	"math/big"

	"quorum/api"
)

// A second, plainer machine: exact numbers, and a stack that is a list of them with their kinds.

// operand is a number, or (truth) 1 or 0.
type operand struct {
	truth bool
	n     *big.Int
}

type plainMachine struct {
	p     api.Program
	env   []operand
	at    int
	stack []operand
	slots []operand
	left  uint64
	held  *big.Int
	paid  [3]*big.Int
	over  bool
	end   api.TermsEnd
	fail  uint64
}

func exact(n uint64) *big.Int { return new(big.Int).SetUint64(n) }

func number(n uint64) operand { return operand{n: exact(n)} }

func truth(is bool) operand {
	if is {
		return operand{truth: true, n: exact(1)}
	}
	return operand{truth: true, n: exact(0)}
}

func newPlain(p api.Program, event int, env api.TermsEnv, fuel uint64) *plainMachine {
	m := &plainMachine{p: p, at: p.Entry[event], left: min(fuel, 1000), held: exact(env.Held)}
	for _, n := range []uint64{env.Caller, env.Amount, env.Held, env.Now, env.Opened, env.Due, env.Asked} {
		m.env = append(m.env, number(n))
	}
	m.env = append(m.env, truth(env.Disputed))
	for _, k := range p.Slots {
		m.slots = append(m.slots, operand{k == 1, exact(0)})
	}
	for i := range m.paid {
		m.paid[i] = exact(0)
	}
	if m.at == -1 {
		m.ends(api.EndNone)
	}
	return m
}

func (m *plainMachine) ends(end api.TermsEnd) { m.over, m.end, m.at = true, end, -1 }

func (m *plainMachine) push(v operand) { m.stack = append(m.stack, v) }

func (m *plainMachine) pop() operand {
	v := m.stack[len(m.stack)-1]
	m.stack = m.stack[:len(m.stack)-1]
	return v
}

// step carries out one instruction; false if the rule is at its end.
func (m *plainMachine) step() bool {
	if m.over {
		return false
	}
	i := m.p.Ins[m.at]
	m.at++
	switch word := wordOf(i); word {
	case "tick":
		if m.left == 0 {
			m.ends(api.EndFuel)
		} else {
			m.left--
		}
	case "num":
		m.push(number(m.p.Consts[i.Arg]))
	case "true", "false":
		m.push(truth(word == "true"))
	case "env":
		m.push(m.env[i.Arg])
	case "get":
		m.push(m.slots[i.Arg])
	case "put":
		m.slots[i.Arg] = m.pop()
	case "jump":
		m.at = i.Arg
	case "jumpnot":
		if m.pop().n.Sign() == 0 {
			m.at = i.Arg
		}
	case "skipnot", "skipyes":
		top := m.pop()
		if (top.n.Sign() == 0) == (word == "skipnot") {
			m.push(top)
			m.at = i.Arg
		}
	case "require":
		if m.pop().n.Sign() == 0 {
			m.fail = uint64(i.Arg)
			m.ends(api.EndFail)
		}
	case "fail":
		m.fail = uint64(i.Arg)
		m.ends(api.EndFail)
	case "done":
		m.ends(api.EndDone)
	case "not":
		m.push(truth(m.pop().n.Sign() == 0))
	default:
		m.reckon(word)
	}
	return true
}

// reckon carries out what takes two or three operands.
func (m *plainMachine) reckon(word string) {
	var c *big.Int
	if word == "share" {
		c = m.pop().n
	}
	b := m.pop().n
	a := m.pop().n
	order := a.Cmp(b)
	switch word {
	case "eq", "eqb":
		m.push(truth(order == 0))
	case "ne", "neb":
		m.push(truth(order != 0))
	case "lt":
		m.push(truth(order < 0))
	case "le":
		m.push(truth(order <= 0))
	case "gt":
		m.push(truth(order > 0))
	case "ge":
		m.push(truth(order >= 0))
	case "add":
		m.fit(new(big.Int).Add(a, b))
	case "sub":
		m.fit(new(big.Int).Sub(a, b))
	case "mul":
		m.fit(new(big.Int).Mul(a, b))
	case "div":
		m.quotient(a, b, false)
	case "mod":
		m.quotient(a, b, true)
	case "share":
		m.quotient(new(big.Int).Mul(a, b), c, false)
	case "min", "max":
		if (order < 0) == (word == "min") {
			b = a
		}
		m.fit(b)
	case "pay":
		m.pay(a, b)
	}
}

func (m *plainMachine) fit(n *big.Int) {
	if n.Sign() < 0 || n.Cmp(exact(most)) > 0 {
		m.ends(api.EndOver)
		return
	}
	m.push(operand{n: n})
}

func (m *plainMachine) quotient(a, b *big.Int, rest bool) {
	if b.Sign() == 0 {
		m.ends(api.EndZero)
		return
	}
	q, r := new(big.Int).QuoRem(a, b, new(big.Int))
	if rest {
		q = r
	}
	m.fit(q)
}

func (m *plainMachine) pay(amount, party *big.Int) {
	if party.Sign() == 0 || party.Cmp(exact(3)) > 0 {
		m.ends(api.EndParty)
		return
	}
	sum := new(big.Int).Set(amount)
	for _, p := range m.paid {
		sum.Add(sum, p)
	}
	if sum.Cmp(m.held) > 0 {
		m.ends(api.EndPot)
		return
	}
	i := party.Int64() - 1
	m.paid[i] = new(big.Int).Add(m.paid[i], amount)
}

func values(list []operand) []api.CodeValue {
	var out []api.CodeValue
	for _, v := range list {
		kind := 0
		if v.truth {
			kind = 1
		}
		out = append(out, api.CodeValue{Kind: kind, N: v.n.Uint64()})
	}
	return out
}

// state tells what the document says of the machine's State.
func (m *plainMachine) state() api.CodeState {
	s := api.CodeState{At: m.at, Stack: values(m.stack), Slots: values(m.slots), Left: m.left, Over: m.over}
	for i, p := range m.paid {
		s.Paid[i] = p.Uint64()
	}
	return s
}

// outcome tells how a rule that has ended did.
func (m *plainMachine) outcome() api.TermsOutcome {
	o := api.TermsOutcome{End: m.end, Left: m.left}
	if m.end == api.EndFail {
		o.Fail = m.fail
	}
	if m.end == api.EndDone {
		o.Pay = m.state().Paid
	}
	return o
}

// plainRun gives the outcome of a rule.
func plainRun(p api.Program, event int, env api.TermsEnv, fuel uint64) api.TermsOutcome {
	m := newPlain(p, event, env, fuel)
	for m.step() {
	}
	return m.outcome()
}
