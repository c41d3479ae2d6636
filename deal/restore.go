package deal

import (
	"quorum/api"
	"quorum/ledger"
)

// Restore gives the house of that image (P5.3).
func Restore(img api.HouseImage) (*House, error) {
	book, err := ledger.Restore(img.Book)
	if err != nil {
		return nil, refusal(0, err)
	}
	switch {
	case len(img.Deals) > api.MaxDeals:
		return nil, refusal(0, api.ErrDealFull)
	case img.Ends > api.MaxLine:
		return nil, refusal(0, api.ErrImage)
	}
	h := onLedger(book)
	h.ends = img.Ends
	for at, d := range img.Deals {
		if why := h.dealFault(d, img.Deals[:at]); why != api.OK {
			return nil, refusal(at, why)
		}
		h.deals[d.ID] = d
	}
	for _, hold := range img.Book.Holds {
		if _, known := h.deals[hold.ID]; !known {
			return nil, refusal(len(img.Deals), api.ErrImage)
		}
	}
	return h, nil
}

// dealFault tells the first thing that is wrong with a deal of an image, behind those ahead of it.
func (h *House) dealFault(d api.Deal, ahead []api.Deal) api.Errno {
	if why := formFault(d, ahead); why != api.OK {
		return why
	}
	unpaid, fits := lessPaid(d)
	switch {
	case !h.endFits(d, ahead):
		return api.ErrImage
	case !mayBeTerms(d.Terms):
		return api.ErrDealTerms
	case !fits:
		return api.ErrDealAmount
	case alive(d) && !h.partiesFit(d):
		return api.ErrDealParty
	case !h.holdFits(d) || !moneyFits(d, h.heldFor(d), unpaid):
		return api.ErrImage
	}
	return api.OK
}

// formFault looks at the deal's own numbers.
func formFault(d api.Deal, ahead []api.Deal) api.Errno {
	last := uint64(0)
	if n := len(ahead); n > 0 {
		last = ahead[n-1].ID
	}
	switch {
	case d.ID == 0:
		return api.ErrDealZero
	case d.ID <= last || d.Phase < api.PhaseOpen || d.Phase > api.PhaseCalledOff:
		return api.ErrImage
	case d.Amount == 0:
		return api.ErrDealAmount
	case d.Due <= d.Opened:
		return api.ErrDealDue
	}
	return api.OK
}

// endFits tells whether a deal's end is one that it can have.
func (h *House) endFits(d api.Deal, ahead []api.Deal) bool {
	if alive(d) {
		return d.End == 0
	}
	for _, other := range ahead {
		if other.End == d.End { // no end is 0, so that the ones that are alive don't count
			return false
		}
	}
	return d.End != 0 && d.End <= h.ends
}

// lessPaid tells what of the amount was not paid, and false if more was paid. The parts are taken away one by one, as their sum might not fit.
func lessPaid(d api.Deal) (uint64, bool) {
	left := d.Amount
	for _, paid := range d.Paid {
		if paid > left {
			return 0, false
		}
		left -= paid
	}
	return left, true
}

// partiesFit tells whether the three accounts are there, of three owners.
func (h *House) partiesFit(d api.Deal) bool {
	accounts, code := h.accountsOf(d)
	return code == api.OK && strangers(accounts)
}

// holdFits tells whether the hold of the deal's number, if there is one, is its buyer's.
func (h *House) holdFits(d api.Deal) bool {
	hold, code := h.book.Held(d.ID)
	return code != api.OK || hold.From == d.Buyer
}

// moneyFits tells whether what is held and what was paid are as the deal's phase wants them.
func moneyFits(d api.Deal, held, unpaid uint64) bool {
	none, all := unpaid == d.Amount, unpaid == 0
	switch d.Phase {
	case api.PhaseFunded, api.PhaseDisputed:
		return held == unpaid
	case api.PhaseOpen, api.PhaseCalledOff:
		return held == 0 && none
	case api.PhaseExpired:
		return held == 0 && (none || all)
	}
	return held == 0 && all
}
