package terms_test

import (
	"math/big"
	"slices"
	"testing"

	"quorum/api"
	"quorum/terms"
)

// A second, plainer way to carry out a rule: exact numbers, a list of names that grows and shrinks with the blocks, and an answer behind every step that says whether the rule goes on.

// thing is a value: a number, or (n nil) a truth.
type thing struct {
	n  *big.Int
	is bool
}

func (a thing) isNumber() bool { return a.n != nil }

// bound is a name with what it has.
type bound struct {
	name string
	has  thing
}

type meaning struct {
	env    api.TermsEnv
	left   uint64
	names  []bound
	labels []string // of the loops around; "" for one without
	pay    [3]*big.Int
	fail   uint64
	// where a break or a continue leads: so many loops out
	out  int
	next bool
}

// how a statement left off.
const (
	goesOn  = -1 // else one of the ends
	leaping = -2
)

var greatest = new(big.Int).SetUint64(most)

func (m *meaning) step() bool {
	if m.left == 0 {
		return false
	}
	m.left--
	return true
}

func (m *meaning) find(name string) *bound {
	for i := range m.names {
		if m.names[i].name == name {
			return &m.names[i]
		}
	}
	return nil
}

func (m *meaning) input(name string) (thing, bool) {
	e := m.env
	all := []uint64{1, 2, 3, e.Caller, e.Amount, e.Held, e.Now, e.Opened, e.Due, e.Asked}
	i := slices.Index(inputNames, name)
	if i == len(all) {
		return thing{is: e.Disputed}, true
	}
	if i < 0 {
		return thing{}, false
	}
	return thing{n: new(big.Int).SetUint64(all[i])}, true
}

// expression gives a value, or how the rule ends.
func (m *meaning) expression(g *grown) (thing, int) {
	switch g.Op {
	case api.TNum:
		return thing{n: new(big.Int).SetUint64(g.N)}, goesOn
	case api.TTrue, api.TFalse:
		return thing{is: g.Op == api.TTrue}, goesOn
	case api.TVar:
		if v, is := m.input(g.Name); is {
			return v, goesOn
		}
		if b := m.find(g.Name); b != nil {
			return b.has, goesOn
		}
		return thing{}, int(api.EndStuck)
	case api.TNot:
		v, how := m.ofKind(g.parts[0], false)
		return thing{is: !v.is}, how
	case api.TBin:
		if g.N <= api.BinAnd {
			return m.logic(g)
		}
		if g.N <= api.BinNe {
			return m.equal(g)
		}
	}
	var n []*big.Int
	for _, p := range g.parts {
		v, how := m.ofKind(p, true)
		if how != goesOn {
			return thing{}, how
		}
		n = append(n, v.n)
	}
	if g.Op == api.TCall {
		return function(g.N, n)
	}
	return operation(g.N, n[0], n[1])
}

// ofKind gives the value of an expression that must be a number, or a truth.
func (m *meaning) ofKind(g *grown, number bool) (thing, int) {
	v, how := m.expression(g)
	if how == goesOn && v.isNumber() != number {
		return thing{}, int(api.EndStuck)
	}
	return v, how
}

func (m *meaning) logic(g *grown) (thing, int) {
	v, how := m.ofKind(g.parts[0], false)
	if how != goesOn || v.is == (g.N == api.BinOr) {
		return v, how
	}
	return m.ofKind(g.parts[1], false)
}

func (m *meaning) equal(g *grown) (thing, int) {
	a, how := m.expression(g.parts[0])
	if how != goesOn {
		return thing{}, how
	}
	b, how := m.expression(g.parts[1])
	if how != goesOn {
		return thing{}, how
	}
	if a.isNumber() != b.isNumber() {
		return thing{}, int(api.EndStuck)
	}
	same := a.is == b.is
	if a.isNumber() {
		same = a.n.Cmp(b.n) == 0
	}
	return thing{is: same == (g.N == api.BinEq)}, goesOn
}

// fitting gives a number that may be one.
func fitting(n *big.Int) (thing, int) {
	if n.Sign() < 0 || n.Cmp(greatest) > 0 {
		return thing{}, int(api.EndOver)
	}
	return thing{n: n}, goesOn
}

func operation(op uint64, a, b *big.Int) (thing, int) {
	c := a.Cmp(b)
	switch op {
	case api.BinLt:
		return thing{is: c < 0}, goesOn
	case api.BinLe:
		return thing{is: c <= 0}, goesOn
	case api.BinGt:
		return thing{is: c > 0}, goesOn
	case api.BinGe:
		return thing{is: c >= 0}, goesOn
	case api.BinAdd:
		return fitting(new(big.Int).Add(a, b))
	case api.BinSub:
		return fitting(new(big.Int).Sub(a, b))
	case api.BinMul:
		return fitting(new(big.Int).Mul(a, b))
	}
	if b.Sign() == 0 {
		return thing{}, int(api.EndZero)
	}
	q, r := new(big.Int).QuoRem(a, b, new(big.Int))
	if op == api.BinDiv {
		return fitting(q)
	}
	return fitting(r)
}

func function(f uint64, n []*big.Int) (thing, int) {
	less := n[0].Cmp(n[1]) < 0
	if f == api.CallShare {
		if n[2].Sign() == 0 {
			return thing{}, int(api.EndZero)
		}
		p := new(big.Int).Mul(n[0], n[1])
		return fitting(p.Quo(p, n[2]))
	}
	if less == (f == api.CallMin) {
		return thing{n: n[0]}, goesOn
	}
	return thing{n: n[1]}, goesOn
}

func (m *meaning) block(g *grown) int {
	known := len(m.names)
	defer func() { m.names = m.names[:known] }()
	for _, p := range g.parts {
		if how := m.statement(p); how != goesOn {
			return how
		}
	}
	return goesOn
}

func (m *meaning) statement(g *grown) int {
	if !m.step() {
		return int(api.EndFuel)
	}
	switch g.Op {
	case api.TLet:
		if _, is := m.input(g.Name); is || m.find(g.Name) != nil || len(m.names) == 8 {
			return int(api.EndStuck)
		}
		v, how := m.expression(g.parts[0])
		if how == goesOn {
			m.names = append(m.names, bound{g.Name, v})
		}
		return how
	case api.TSet:
		b := m.find(g.Name)
		if b == nil {
			return int(api.EndStuck)
		}
		v, how := m.ofKind(g.parts[0], b.has.isNumber())
		if how == goesOn {
			b.has = v
		}
		return how
	case api.TIf:
		v, how := m.ofKind(g.parts[0], false)
		switch {
		case how != goesOn:
			return how
		case v.is:
			return m.block(g.parts[1])
		}
		return m.block(g.parts[2])
	case api.TWhile:
		return m.loop(g)
	case api.TBreak, api.TContinue:
		for i := range m.labels {
			if l := m.labels[len(m.labels)-1-i]; g.Name == "" || g.Name == l {
				m.out, m.next = i, g.Op == api.TContinue
				return leaping
			}
		}
		return int(api.EndStuck)
	case api.TRequire:
		v, how := m.ofKind(g.parts[0], false)
		if how == goesOn && !v.is {
			m.fail = g.N
			return int(api.EndFail)
		}
		return how
	case api.TPay:
		return m.payment(g)
	case api.TFail:
		m.fail = g.N
		return int(api.EndFail)
	}
	return int(api.EndDone)
}

func (m *meaning) loop(g *grown) int {
	if g.Name != "" && slices.Contains(m.labels, g.Name) {
		return int(api.EndStuck)
	}
	around := m.labels
	m.labels = append(slices.Clone(around), g.Name)
	defer func() { m.labels = around }()
	for {
		if !m.step() {
			return int(api.EndFuel)
		}
		v, how := m.ofKind(g.parts[0], false)
		if how != goesOn || !v.is {
			return how
		}
		how = m.block(g.parts[1])
		switch {
		case how == goesOn:
		case how != leaping:
			return how
		case m.out > 0:
			m.out--
			return leaping
		case !m.next:
			return goesOn
		}
	}
}

func (m *meaning) payment(g *grown) int {
	amount, how := m.ofKind(g.parts[0], true)
	if how != goesOn {
		return how
	}
	to, how := m.ofKind(g.parts[1], true)
	if how != goesOn {
		return how
	}
	if to.n.Sign() == 0 || to.n.Cmp(big.NewInt(3)) > 0 {
		return int(api.EndParty)
	}
	sum := new(big.Int).Set(amount.n)
	for _, p := range m.pay {
		sum.Add(sum, p)
	}
	if sum.Cmp(new(big.Int).SetUint64(m.env.Held)) > 0 {
		return int(api.EndPot)
	}
	p := m.pay[to.n.Int64()-1]
	p.Add(p, amount.n)
	return goesOn
}

// means gives the outcome that the document asks of a run.
func means(list []api.TermsNode, event int, env api.TermsEnv, fuel uint64) api.TermsOutcome {
	m := meaning{env: env, left: min(fuel, 1000), pay: [3]*big.Int{new(big.Int), new(big.Int), new(big.Int)}}
	how := int(api.EndNone)
	for _, on := range regrown(list).parts {
		if on.N == uint64(event) {
			how = m.block(on.parts[0])
			if how == goesOn {
				how = int(api.EndDone)
			}
			break
		}
	}
	o := api.TermsOutcome{End: api.TermsEnd(how), Left: m.left}
	if o.End == api.EndFail {
		o.Fail = m.fail
	}
	for i, p := range m.pay {
		if o.End == api.EndDone {
			o.Pay[i] = p.Uint64()
		}
	}
	return o
}

// someEnv gives what a rule may be told.
func (d *dice) someEnv() api.TermsEnv {
	amount := func() uint64 { return one(d, []uint64{0, 1, 2, 3, 7, 100, 1000, most - 1, most}) }
	return api.TermsEnv{Caller: uint64(d.below(4)), Amount: amount(), Held: amount(), Now: amount(), Opened: amount(), Due: amount(), Asked: amount(), Disputed: d.below(2) == 0}
}

// Many rules, right and wrong, held against the second way; and what P3.8 says of all of them.
func TestP3_7_8Any(t *testing.T) {
	d := &dice{2024}
	seen := map[api.TermsEnd]int{}
	steps := uint64(0)
	for i := range 9000 {
		list := someTree(d, i%3 == 0, 20+d.below(100))
		event, env := int(list[1].N), d.someEnv()
		if d.below(4) == 0 {
			event = d.below(6)
		}
		fuel := one(d, []uint64{0, 1, 2, 3, 5, 8, 20, 100, 999, 1000, 1001, most})
		want := means(list, event, env, fuel)
		runs(t, list, event, env, fuel, want)
		seen[want.End]++
		steps += min(fuel, 1000) - want.Left
		if want.End == api.EndStuck && terms.Check(list) == nil {
			t.Errorf("P3.8: stuck, though Check let it pass")
		}
		paidAtMost(t, env, want)
		fuelAdds(t, list, event, env, min(fuel, 1000), want)
		if t.Failed() {
			t.Fatalf("of %v with %+v", list, env)
		}
	}
	for e := api.EndDone; e <= api.EndNone; e++ {
		if seen[e] < 30 {
			t.Errorf("end %d was met %d times: the test has lost its aim", e, seen[e])
		}
	}
	if steps < 30000 {
		t.Errorf("only %d steps: the test has lost its aim", steps)
	}
}

// paidAtMost wants no more to be paid than is held, and nothing if the end is no good one.
func paidAtMost(t *testing.T, env api.TermsEnv, o api.TermsOutcome) {
	t.Helper()
	sum := new(big.Int)
	for _, p := range o.Pay {
		sum.Add(sum, new(big.Int).SetUint64(p))
	}
	if sum.Cmp(new(big.Int).SetUint64(env.Held)) > 0 || o.End != api.EndDone && sum.Sign() > 0 {
		t.Errorf("P3.8: %v is paid of %d, end %d", o.Pay, env.Held, o.End)
	}
}

// fuelAdds wants a run with more steps to end alike with those left, if it did not run dry; and one with fewer than it took to run dry.
func fuelAdds(t *testing.T, list []api.TermsNode, event int, env api.TermsEnv, fuel uint64, o api.TermsOutcome) {
	t.Helper()
	if o.End == api.EndFuel {
		return
	}
	took := fuel - o.Left
	for _, more := range []uint64{took, took + 1, 999, 1000} {
		if more >= took {
			want := o
			want.Left = more - took
			runs(t, list, event, env, more, want)
		}
	}
	if took > 0 {
		runs(t, list, event, env, took-1, api.TermsOutcome{End: api.EndFuel})
	}
}
