package deal

import "quorum/api"

// owned gives the account that an order names, if it is the client's.
func (h *House) owned(o order) (api.Account, api.Errno) {
	a, code := h.book.Account(o.Acct)
	if code == api.OK && a.Owner != o.client {
		return a, api.ErrDealRole
	}
	return a, code
}

// enrol makes a new account (P5.6).
func (h *House) enrol(o order) api.Result {
	return result(h.book.Create(o.Acct, o.client, o.Amount))
}

// close takes an account away (P5.6).
func (h *House) close(o order) api.Result {
	_, code := h.owned(o)
	switch {
	case code != api.OK:
		return result(code)
	case h.needs(o.Acct):
		return result(api.ErrLedgerBusy)
	}
	return result(h.book.Close(o.Acct))
}

// needs tells whether an account is a party's in a deal that is alive.
func (h *House) needs(acct uint64) bool {
	for _, d := range h.deals {
		for _, of := range parties(d) {
			if alive(d) && of == acct {
				return true
			}
		}
	}
	return false
}

// transfer pays from one account to another (P5.6).
func (h *House) transfer(o order) api.Result {
	if _, code := h.owned(o); code != api.OK {
		return result(code)
	}
	return result(h.book.Move(o.Acct, o.To, o.Amount))
}

// balance tells what an account has and may have (P5.6).
func (h *House) balance(o order) api.Result {
	a, code := h.owned(o)
	if code != api.OK {
		return result(code)
	}
	return result(api.OK, a.Balance, a.Cap)
}
