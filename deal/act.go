package deal

import (
	"slices"

	"quorum/api"
	"quorum/code"
)

// refused is what an action gives up with, by a panic.
type refused struct{ api.Result }

// giveUp ends an action from however deep inside.
func giveUp(why api.Errno, told ...uint64) { panic(refused{result(why, told...)}) }

// must gives up, unless it is handed OK.
func must(why api.Errno) {
	if why != api.OK {
		giveUp(why)
	}
}

// turn is an action on its way: the order, what holds of its verb, and the deal with the client's role in it.
type turn struct {
	order
	action
	deal  api.Deal
	role  int
	rules api.Program
	ruled bool // there is a rule for the action
}

// act is the door of the six actions (P5.8). The ledger is changed step by step, and taken back to the mark if a step is refused; the deal is changed last, when nothing can be refused any more.
func (h *House) act(o order) (came api.Result) {
	mark, _ := h.book.Mark() // the house sets one mark at a time: there is room
	defer func() {
		if end, gaveUp := recover().(refused); gaveUp {
			h.book.Undo(mark)
			came = end.Result
		}
	}()
	t := h.begin(o)
	got := h.payOut(t)
	h.book.Keep(mark)
	h.advance(t, got)
	return result(api.OK, got[:]...)
}

// begin looks at who asks, and when (P5.8).
func (h *House) begin(o order) turn {
	d, role, why := h.asParty(o)
	must(why)
	t := turn{order: o, action: actionOf(o.Verb), deal: d, role: role}
	t.rules, t.ruled = ruleFor(d, t.event)
	switch {
	case !t.ruled && !slices.Contains(t.who, role):
		giveUp(api.ErrDealRole)
	case !slices.Contains(t.in, d.Phase):
		giveUp(api.ErrDealPhase)
	case o.Verb == api.VExpire && o.now < d.Due:
		giveUp(api.ErrDealDue)
	case t.ends() && h.noMoreEnds():
		giveUp(api.ErrDealFull)
	}
	return t
}

// ends tells whether the action ends its deal: then nothing stays held.
func (a action) ends() bool { return a.rest != 0 }

// payOut does what the action asks of the ledger, and tells what buyer, seller and arbiter got (P5.9 to P5.11).
func (h *House) payOut(t turn) [3]uint64 {
	if t.Verb == api.VFund {
		must(h.book.Hold(t.deal.ID, t.deal.Buyer, t.deal.Amount))
	}
	held := h.heldFor(t.deal)
	got := t.pays(held)
	if !t.ends() {
		for _, s := range shares(t.deal, got) {
			must(h.book.Pay(t.deal.ID, s.To, s.Amount))
		}
		return got
	}
	got[t.rest-1] += held - got[0] - got[1] - got[2]
	if held != 0 {
		must(h.book.Settle(t.deal.ID, shares(t.deal, got)))
	}
	return got
}

// pays tells what each party is to get, of what is held, ahead of the rest.
func (t turn) pays(held uint64) [3]uint64 {
	switch {
	case t.ruled:
		return t.byRule(held)
	case t.Verb != api.VArbitrate:
		return [3]uint64{}
	case t.Amount > held:
		giveUp(api.ErrDealAmount)
	}
	return [...]uint64{0, t.Amount, 0}
}

// byRule runs the rule (P5.9). A program that was compiled is never refused.
func (t turn) byRule(held uint64) [3]uint64 {
	env := api.TermsEnv{
		Caller:   uint64(t.role),
		Amount:   t.deal.Amount,
		Held:     held,
		Now:      t.now,
		Opened:   t.deal.Opened,
		Due:      t.deal.Due,
		Asked:    t.Amount,
		Disputed: t.deal.Phase == api.PhaseDisputed,
	}
	out, _ := code.Run(t.rules, t.event, env, api.MaxFuel)
	if out.End != api.EndDone {
		giveUp(api.ErrDealRule, uint64(out.End), out.Fail)
	}
	return out.Pay
}

// shares lists what is paid to whom, without those who get nothing.
func shares(d api.Deal, got [3]uint64) []api.Share {
	var list []api.Share
	for i, to := range parties(d) {
		if got[i] != 0 {
			list = append(list, api.Share{To: to, Amount: got[i]})
		}
	}
	return list
}

// advance changes the deal, behind an action that nobody refused (P5.11).
func (h *House) advance(t turn, got [3]uint64) {
	d := t.deal
	for i, n := range got {
		d.Paid[i] += n
	}
	d.Phase = t.then
	if t.ends() {
		h.end(&d)
	}
	h.deals[d.ID] = d
}
