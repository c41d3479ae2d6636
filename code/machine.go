package code

import (
	"math"

	"quorum/api"
)

// Run carries out the rule for an event (P4.5).
func Run(p api.Program, event int, env api.TermsEnv, fuel uint64) (api.TermsOutcome, error) {
	m, err := Load(p, event, env, fuel)
	if err != nil {
		return api.TermsOutcome{}, err
	}
	m.carryOut(math.MaxInt)
	out, _ := m.Outcome()
	return out, nil
}

// Machine is a rule that is carried out instruction by instruction (P4.6).
type Machine struct {
	made   bool
	consts []uint64
	ins    []api.Ins
	given  [len(inputs)]api.CodeValue
	held   uint64
	slots  [api.MaxCodeSlots]api.CodeValue
	many   int // slots that the program has
	stack  [api.MaxCodeStack]api.CodeValue
	height int // operands that lie on the stack
	at     int // -1 at the end
	left   uint64
	paid   [3]uint64
	over   bool
	end    api.TermsEnd
	fail   uint64
}

// Load makes a machine that stands ahead of a rule's first instruction.
func Load(p api.Program, event int, env api.TermsEnv, fuel uint64) (*Machine, error) {
	if err := Verify(p); err != nil {
		return nil, err
	}
	if !isPlace(event, len(p.Entry)) {
		return nil, refusal(0, api.ErrCodeEvent)
	}
	m := &Machine{
		made:   true,
		consts: copied(p.Consts),
		ins:    copied(p.Ins),
		given:  given(env),
		held:   env.Held,
		many:   len(p.Slots),
		at:     p.Entry[event],
		left:   min(fuel, api.MaxFuel),
	}
	for i, kind := range p.Slots {
		m.slots[i].Kind = kind
	}
	if m.at < 0 {
		m.stop(api.EndNone)
	}
	return m, nil
}

// Step carries out one instruction; false if the rule is at its end already.
func (m *Machine) Step() bool {
	if m == nil || !m.made || m.over {
		return false
	}
	m.carryOut(1)
	return true
}

// State tells what the machine is like.
func (m *Machine) State() api.CodeState {
	if m == nil || !m.made {
		return api.CodeState{}
	}
	return api.CodeState{
		At:    m.at,
		Stack: copied(m.stack[:m.height]),
		Slots: copied(m.slots[:m.many]),
		Left:  m.left,
		Paid:  m.paid,
		Over:  m.over,
	}
}

// Outcome tells how the rule ended, and whether it has.
func (m *Machine) Outcome() (api.TermsOutcome, bool) {
	if m == nil || !m.over {
		return api.TermsOutcome{}, false
	}
	out := api.TermsOutcome{End: m.end, Fail: m.fail, Left: m.left}
	if m.end == api.EndDone {
		out.Pay = m.paid
	}
	return out, true
}

// carryOut carries out instructions until the rule ends, but no more than so many. As the program is verified no operand is missing or of the wrong kind, and every place is there.
func (m *Machine) carryOut(most int) {
run:
	for ; most > 0 && !m.over; most-- {
		ins := m.ins[m.at]
		switch ins.Op {
		case api.CTick:
			if m.left == 0 {
				m.stop(api.EndFuel)
				break run
			}
			m.left--
		case api.CNum:
			m.lay(numberOf(m.consts[ins.Arg]))
		case api.CTrue, api.CFalse:
			m.lay(truthOf(ins.Op == api.CTrue))
		case api.CEnv:
			m.lay(m.given[ins.Arg])
		case api.CGet:
			m.lay(m.slots[ins.Arg])
		case api.CPut:
			m.slots[ins.Arg] = m.take()
		case api.CSkipNot, api.CSkipYes:
			if m.stack[m.height-1] == truthOf(ins.Op == api.CSkipYes) {
				m.at = ins.Arg
				continue run
			}
			m.take()
		case api.CJumpNot:
			if m.takeTruth() {
				break
			}
			fallthrough
		case api.CJump:
			m.at = ins.Arg
			continue run
		case api.CRequire:
			if m.takeTruth() {
				break
			}
			fallthrough
		case api.CFail:
			m.fail = uint64(ins.Arg)
			m.stop(api.EndFail)
			break run
		case api.CDone:
			m.stop(api.EndDone)
			break run
		default:
			if !m.operate(ins.Op) {
				break run
			}
		}
		m.at++
	}
}

// stop ends the rule.
func (m *Machine) stop(end api.TermsEnd) {
	m.over, m.end, m.at = true, end, -1
}
