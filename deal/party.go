package deal

import "quorum/api"

// alive tells whether a deal has not ended yet.
func alive(d api.Deal) bool { return d.Phase <= api.PhaseDisputed }

// parties gives the accounts of buyer, seller and arbiter: that of a role stands at the role less one.
func parties(d api.Deal) [3]uint64 { return [...]uint64{d.Buyer, d.Seller, d.Arbiter} }

// accountsOf gives the parties' accounts, or the ledger's code for the first that is not there.
func (h *House) accountsOf(d api.Deal) ([3]api.Account, api.Errno) {
	var list [3]api.Account
	for i, id := range parties(d) {
		a, code := h.book.Account(id)
		if code != api.OK {
			return list, code
		}
		list[i] = a
	}
	return list, api.OK
}

// strangers tells whether no two of the accounts have the same owner. An account that stands there twice has its owner twice.
func strangers(accounts [3]api.Account) bool {
	a, b, c := accounts[0].Owner, accounts[1].Owner, accounts[2].Owner
	return a != b && a != c && b != c
}

// roleOf tells a client's role in a deal; 0 if it is no party.
func (h *House) roleOf(d api.Deal, client uint64) int {
	for i, id := range parties(d) {
		if a, code := h.book.Account(id); code == api.OK && a.Owner == client {
			return i + 1
		}
	}
	return 0
}

// asParty gives the deal that an order names, and the client's role in it.
func (h *House) asParty(o order) (api.Deal, int, api.Errno) {
	d, known := h.deals[o.Deal]
	if !known {
		return d, 0, api.ErrDealUnknown
	}
	role := h.roleOf(d, o.client)
	if role == 0 {
		return d, 0, api.ErrDealRole
	}
	return d, role, api.OK
}

// heldFor tells what is held for a deal. Behind the ledger's refusal the hold is all zero.
func (h *House) heldFor(d api.Deal) uint64 {
	hold, _ := h.book.Held(d.ID)
	return hold.Amount
}

// noMoreEnds tells whether no deal can end any more.
func (h *House) noMoreEnds() bool { return h.ends == api.MaxLine }

// end gives a deal the next end.
func (h *House) end(d *api.Deal) {
	h.ends++
	d.End = h.ends
}

// callOff ends a deal that was not funded (P5.12).
func (h *House) callOff(o order) api.Result {
	d, _, code := h.asParty(o)
	switch {
	case code != api.OK:
		return result(code)
	case d.Phase != api.PhaseOpen:
		return result(api.ErrDealPhase)
	case h.noMoreEnds():
		return result(api.ErrDealFull)
	}
	d.Phase = api.PhaseCalledOff
	h.end(&d)
	h.deals[d.ID] = d
	return result(api.OK)
}

// look tells a party where a deal stands (P5.12).
func (h *House) look(o order) api.Result {
	d, _, code := h.asParty(o)
	if code != api.OK {
		return result(code)
	}
	return result(api.OK, uint64(d.Phase), d.Amount, h.heldFor(d), d.Opened, d.Due, d.Paid[0], d.Paid[1], d.Paid[2])
}
