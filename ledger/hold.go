package ledger

import "quorum/api"

// Hold takes money out of an account (P2.5).
func (l *Ledger) Hold(hold, from, amount uint64) api.Errno {
	if !l.made() {
		return api.ErrZero
	}
	_, taken := l.holds[hold]
	a, known := l.accounts[from]
	switch {
	case hold == 0 || from == 0:
		return api.ErrLedgerZero
	case taken:
		return api.ErrLedgerTaken
	case !known:
		return api.ErrLedgerUnknown
	case amount == 0:
		return api.ErrLedgerAmount
	case amount > a.Balance:
		return api.ErrLedgerFunds
	case len(l.holds) >= api.MaxHolds || l.journal.full(1):
		return api.ErrLedgerFull
	}
	a.Balance -= amount
	l.setAccount(a)
	l.setHold(api.Hold{ID: hold, From: from, Amount: amount})
	l.write(api.EntryHold, from, hold, amount)
	return api.OK
}

// Pay pays out a part of a hold (P2.6).
func (l *Ledger) Pay(hold, to, amount uint64) api.Errno {
	if !l.made() {
		return api.ErrZero
	}
	h, holdKnown := l.holds[hold]
	a, payeeKnown := l.accounts[to]
	switch {
	case hold == 0 || to == 0:
		return api.ErrLedgerZero
	case !holdKnown || !payeeKnown:
		return api.ErrLedgerUnknown
	case amount == 0:
		return api.ErrLedgerAmount
	case amount > h.Amount:
		return api.ErrLedgerFunds
	case amount > room(a):
		return api.ErrLedgerCap
	case l.journal.full(1):
		return api.ErrLedgerFull
	}
	l.payOut(hold, to, amount)
	return api.OK
}

// payOut pays out of a hold what was found to be there and to fit.
func (l *Ledger) payOut(hold, to, amount uint64) {
	h, a := l.holds[hold], l.accounts[to]
	h.Amount -= amount
	a.Balance += amount
	l.setHold(h)
	l.setAccount(a)
	l.write(api.EntryPay, hold, to, amount)
}

// Settle pays out a whole hold, or nothing (P2.7).
func (l *Ledger) Settle(hold uint64, shares []api.Share) api.Errno {
	if !l.made() {
		return api.ErrZero
	}
	h, known := l.holds[hold]
	switch {
	case hold == 0:
		return api.ErrLedgerZero
	case !known:
		return api.ErrLedgerUnknown
	case len(shares) == 0 || len(shares) > api.MaxShares:
		return api.ErrLedgerShares
	}
	if why := l.sharesFault(h, shares); why != api.OK {
		return why
	}
	for _, s := range shares {
		l.payOut(hold, s.To, s.Amount)
	}
	return api.OK
}

// sharesFault tells why a hold can't be paid out in these shares: first what is wrong with one of them alone, then with all together.
func (l *Ledger) sharesFault(h api.Hold, shares []api.Share) api.Errno {
	for _, s := range shares {
		if why := l.shareFault(s); why != api.OK {
			return why
		}
	}
	switch {
	case !makeUp(h.Amount, amounts(shares)):
		return api.ErrLedgerShares
	case !l.fit(shares):
		return api.ErrLedgerCap
	case l.journal.full(len(shares)):
		return api.ErrLedgerFull
	}
	return api.OK
}

func (l *Ledger) shareFault(s api.Share) api.Errno {
	_, known := l.accounts[s.To]
	switch {
	case s.To == 0:
		return api.ErrLedgerZero
	case !known:
		return api.ErrLedgerUnknown
	case s.Amount == 0:
		return api.ErrLedgerAmount
	}
	return api.OK
}

// amounts gives what the shares are, one by one.
func amounts(shares []api.Share) []uint64 {
	var list []uint64
	for _, s := range shares {
		list = append(list, s.Amount)
	}
	return list
}

// fit tells whether every account may have all its shares. They make up a hold, so no sum of some of them wraps.
func (l *Ledger) fit(shares []api.Share) bool {
	sums := map[uint64]uint64{}
	for _, s := range shares {
		sums[s.To] += s.Amount
		if sums[s.To] > room(l.accounts[s.To]) {
			return false
		}
	}
	return true
}
