package terms

import (
	"math/bits"

	"quorum/api"
)

// value is a number, or a truth: 1 if it is true, else 0.
type value struct {
	kind kind
	n    uint64
}

func numberOf(n uint64) value { return value{number, n} }

func truthOf(is bool) value {
	if is {
		return value{truth, 1}
	}
	return value{truth, 0}
}

// given gives the inputs' values.
func given(env api.TermsEnv) [len(inputs)]value {
	return [...]value{
		numberOf(api.Buyer),
		numberOf(api.Seller),
		numberOf(api.Arbiter),
		numberOf(env.Caller),
		numberOf(env.Amount),
		numberOf(env.Held),
		numberOf(env.Now),
		numberOf(env.Opened),
		numberOf(env.Due),
		numberOf(env.Asked),
		truthOf(env.Disputed),
	}
}

// number works out an expression that must be a number.
func (r *run) number(at int) uint64 { return r.valueOf(number, at) }

// truth works out an expression that must be a truth.
func (r *run) truth(at int) bool { return r.valueOf(truth, at) == 1 }

// valueOf works out an expression that must be of that kind.
func (r *run) valueOf(k kind, at int) uint64 {
	v := r.value(at)
	if v.kind != k {
		r.stop(api.EndStuck)
	}
	return v.n
}

// value works out an expression.
func (r *run) value(at int) value {
	n := r.nodes[at]
	switch n.Op {
	case api.TNum:
		return numberOf(n.N)
	case api.TVar:
		return r.variable(at)
	case api.TNot:
		return truthOf(!r.truth(at + 1))
	case api.TBin:
		return r.binary(int(n.N), at+1, r.ends[at+1])
	case api.TCall:
		return numberOf(r.call(at))
	}
	return truthOf(n.Op == api.TTrue)
}

func (r *run) variable(at int) value {
	name := r.nodes[at].Name
	if i, is := inputAt(name); is {
		return r.given[i]
	}
	let := r.let(at, name)
	if let == 0 {
		r.stop(api.EndStuck)
	}
	return r.vars[let]
}

// binary works out an operator with its two sides.
func (r *run) binary(op, left, right int) value {
	switch op {
	case api.BinOr:
		return truthOf(r.truth(left) || r.truth(right))
	case api.BinAnd:
		return truthOf(r.truth(left) && r.truth(right))
	case api.BinEq:
		return truthOf(r.same(left, right))
	case api.BinNe:
		return truthOf(!r.same(left, right))
	}
	a := r.number(left)
	b := r.number(right)
	switch op {
	case api.BinLt:
		return truthOf(a < b)
	case api.BinLe:
		return truthOf(a <= b)
	case api.BinGt:
		return truthOf(a > b)
	case api.BinGe:
		return truthOf(a >= b)
	}
	return numberOf(r.reckon(op, a, b))
}

// same holds two expressions of one kind against each other.
func (r *run) same(left, right int) bool {
	a := r.value(left)
	b := r.value(right)
	if a.kind != b.kind {
		r.stop(api.EndStuck)
	}
	return a == b
}

// reckon does a sum of two numbers; the run ends where there is none that fits.
func (r *run) reckon(op int, a, b uint64) uint64 {
	var result, over uint64
	switch {
	case op == api.BinAdd:
		result, over = bits.Add64(a, b, 0)
	case op == api.BinSub:
		result, over = bits.Sub64(a, b, 0)
	case op == api.BinMul:
		over, result = bits.Mul64(a, b)
	case b == 0:
		r.stop(api.EndZero)
	case op == api.BinDiv:
		result = a / b
	case op == api.BinMod:
		result = a % b
	}
	if over != 0 {
		r.stop(api.EndOver)
	}
	return result
}

// call works out a function.
func (r *run) call(at int) uint64 {
	var operands []uint64
	for part := range r.parts(at) {
		operands = append(operands, r.number(part))
	}
	a, b := operands[0], operands[1]
	switch r.nodes[at].N {
	case api.CallMin:
		return min(a, b)
	case api.CallMax:
		return max(a, b)
	}
	return r.share(a, b, operands[2])
}

// share gives a times b divided by c. The product may have 128 bits; the quotient fits if what is above the lower 64 is less than c.
func (r *run) share(a, b, c uint64) uint64 {
	high, low := bits.Mul64(a, b)
	switch {
	case c == 0:
		r.stop(api.EndZero)
	case high >= c:
		r.stop(api.EndOver)
	}
	quotient, _ := bits.Div64(high, low, c)
	return quotient
}
