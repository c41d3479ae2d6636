package deal

import "quorum/api"

// open makes a new deal (P5.7).
func (h *House) open(o order) api.Result {
	d := api.Deal{
		ID:      o.Deal,
		Buyer:   o.Acct,
		Seller:  o.To,
		Arbiter: o.Arbiter,
		Amount:  o.Amount,
		Opened:  o.now,
		Due:     o.Due,
		Phase:   api.PhaseOpen,
		Terms:   o.Terms,
	}
	if code := h.openFault(d, o.client); code != api.OK {
		return result(code)
	}
	if d.Terms != "" {
		if _, err := compiled(d.Terms); err != nil {
			at, why := placeAndReason(err)
			return result(api.ErrDealTerms, uint64(why), uint64(at))
		}
	}
	if !h.makeRoom() {
		return result(api.ErrDealFull)
	}
	h.deals[d.ID] = d
	return result(api.OK)
}

// openFault looks at all of a new deal but its terms.
func (h *House) openFault(d api.Deal, client uint64) api.Errno {
	if d.ID == 0 {
		return api.ErrDealZero
	}
	if _, known := h.deals[d.ID]; known {
		return api.ErrDealTaken
	}
	accounts, code := h.accountsOf(d)
	switch {
	case code != api.OK:
		return code
	case !strangers(accounts):
		return api.ErrDealParty
	case accounts[0].Owner != client:
		return api.ErrDealRole
	case d.Amount == 0:
		return api.ErrDealAmount
	case d.Due <= d.Opened:
		return api.ErrDealDue
	}
	return api.OK
}

// makeRoom forgets the deal that ended first, if there is no room for another; it tells whether there is room then.
func (h *House) makeRoom() bool {
	if len(h.deals) < api.MaxDeals {
		return true
	}
	var first api.Deal
	for _, d := range h.deals {
		if !alive(d) && (first.ID == 0 || d.End < first.End) {
			first = d
		}
	}
	if first.ID == 0 {
		return false
	}
	delete(h.deals, first.ID)
	return true
}
