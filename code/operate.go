package code

import (
	"math/bits"

	"quorum/api"
)

func numberOf(n uint64) api.CodeValue { return api.CodeValue{Kind: api.KindNum, N: n} }

func truthOf(is bool) api.CodeValue {
	if is {
		return api.CodeValue{Kind: api.KindBool, N: 1}
	}
	return api.CodeValue{Kind: api.KindBool, N: 0}
}

// given gives the inputs' values, each at its number.
func given(env api.TermsEnv) [len(inputs)]api.CodeValue {
	return [...]api.CodeValue{
		numberOf(env.Caller),
		numberOf(env.Amount),
		numberOf(env.Held),
		numberOf(env.Now),
		numberOf(env.Opened),
		numberOf(env.Due),
		numberOf(env.Asked),
		truthOf(env.Disputed),
	}
}

// lay lays a value up.
func (m *Machine) lay(v api.CodeValue) {
	m.stack[m.height] = v
	m.height++
}

// take takes the value on the top.
func (m *Machine) take() api.CodeValue {
	m.height--
	return m.stack[m.height]
}

func (m *Machine) takeTruth() bool { return m.take().N == 1 }

// takeTwo takes two values and gives them in the order in which they were laid up.
func (m *Machine) takeTwo() (uint64, uint64) {
	b := m.take().N
	a := m.take().N
	return a, b
}

// operate carries out an instruction that has operands and no Arg, and tells whether the rule goes on.
func (m *Machine) operate(op api.CodeOp) bool {
	switch op {
	case api.CNot:
		m.lay(truthOf(!m.takeTruth()))
	case api.CEqNum, api.CNeNum, api.CLt, api.CLe, api.CGt, api.CGe, api.CEqBool, api.CNeBool:
		a, b := m.takeTwo()
		m.lay(truthOf(holds(op, a, b)))
	case api.CPay:
		return m.pay()
	default:
		return m.reckon(op)
	}
	return true
}

// holds tells whether a comparison does.
func holds(op api.CodeOp, a, b uint64) bool {
	switch op {
	case api.CEqNum, api.CEqBool:
		return a == b
	case api.CNeNum, api.CNeBool:
		return a != b
	case api.CLt:
		return a < b
	case api.CLe:
		return a <= b
	case api.CGt:
		return a > b
	}
	return a >= b
}

// pay pays an amount to a party, or ends the rule.
func (m *Machine) pay() bool {
	amount, party := m.takeTwo()
	switch {
	case party < api.Buyer || party > api.Arbiter:
		m.stop(api.EndParty)
	case amount > m.held-m.paid[0]-m.paid[1]-m.paid[2]: // what was paid was never above what is held
		m.stop(api.EndPot)
	default:
		m.paid[party-1] += amount
	}
	return !m.over
}

// reckon lays up the number that an instruction works out, or ends the rule.
func (m *Machine) reckon(op api.CodeOp) bool {
	var c uint64
	if op == api.CShare {
		c = m.take().N
	}
	a, b := m.takeTwo()
	n, end := reckoned(op, a, b, c)
	if end != api.EndDone {
		m.stop(end)
		return false
	}
	m.lay(numberOf(n))
	return true
}

// reckoned works out a number of two, or of three. Where there is none it tells another end than EndDone.
func reckoned(op api.CodeOp, a, b, c uint64) (uint64, api.TermsEnd) {
	switch op {
	case api.CAdd:
		return fitting(bits.Add64(a, b, 0))
	case api.CSub:
		return fitting(bits.Sub64(a, b, 0))
	case api.CMul:
		high, low := bits.Mul64(a, b)
		return fitting(low, high)
	case api.CMin:
		return min(a, b), api.EndDone
	case api.CMax:
		return max(a, b), api.EndDone
	case api.CShare:
		return share(a, b, c)
	}
	switch {
	case b == 0:
		return 0, api.EndZero
	case op == api.CDiv:
		return a / b, api.EndDone
	}
	return a % b, api.EndDone
}

// fitting gives a number, if nothing of it is above 64 bits or below 0.
func fitting(n, over uint64) (uint64, api.TermsEnd) {
	if over != 0 {
		return 0, api.EndOver
	}
	return n, api.EndDone
}

// share gives a times b divided by c. The product may have 128 bits; the quotient fits if what is above the lower 64 is less than c.
func share(a, b, c uint64) (uint64, api.TermsEnd) {
	high, low := bits.Mul64(a, b)
	switch {
	case c == 0:
		return 0, api.EndZero
	case high >= c:
		return 0, api.EndOver
	}
	quotient, _ := bits.Div64(high, low, c)
	return quotient, api.EndDone
}
