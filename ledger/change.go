package ledger

import "quorum/api"

// put stores a value under its number, and gives what takes that back.
func put[T any](m map[uint64]T, id uint64, v T) (back func()) {
	old, was := m[id]
	m[id] = v
	if was {
		return func() { m[id] = old }
	}
	return func() { delete(m, id) }
}

// drop deletes what is there under a number, and gives what takes that back.
func drop[T any](m map[uint64]T, id uint64) (back func()) {
	old := m[id]
	delete(m, id)
	return func() { m[id] = old }
}

// setAccount makes an account what it is told to be.
func (l *Ledger) setAccount(a api.Account) {
	l.saved.note(put(l.accounts, a.ID, a))
}

// setHold makes a hold what it is told to be; one that has nothing left is gone.
func (l *Ledger) setHold(h api.Hold) {
	if h.Amount == 0 {
		l.saved.note(drop(l.holds, h.ID))
		return
	}
	l.saved.note(put(l.holds, h.ID, h))
}

// write adds a line to the journal.
func (l *Ledger) write(kind int, from, to, amount uint64) {
	l.saved.note(l.journal.write(kind, from, to, amount))
}

// room tells how much an account may still be paid; no balance is above its cap.
func room(a api.Account) uint64 { return a.Cap - a.Balance }

// Create makes an account (P2.2).
func (l *Ledger) Create(id, owner, cap uint64) api.Errno {
	if !l.made() {
		return api.ErrZero
	}
	_, taken := l.accounts[id]
	switch {
	case id == 0:
		return api.ErrLedgerZero
	case taken:
		return api.ErrLedgerTaken
	case len(l.accounts) >= api.MaxAccts || l.journal.full(1):
		return api.ErrLedgerFull
	}
	l.setAccount(api.Account{ID: id, Owner: owner, Cap: cap})
	l.write(api.EntryCreate, id, 0, cap)
	return api.OK
}

// Close takes an account away (P2.3).
func (l *Ledger) Close(id uint64) api.Errno {
	if !l.made() {
		return api.ErrZero
	}
	a, known := l.accounts[id]
	switch {
	case id == 0:
		return api.ErrLedgerZero
	case !known:
		return api.ErrLedgerUnknown
	case a.Balance != 0 || l.holdsOf(id):
		return api.ErrLedgerBusy
	case l.journal.full(1):
		return api.ErrLedgerFull
	}
	l.saved.note(drop(l.accounts, id))
	l.write(api.EntryClose, id, 0, 0)
	return api.OK
}

// holdsOf tells whether some hold was taken from an account.
func (l *Ledger) holdsOf(id uint64) bool {
	for _, h := range l.holds {
		if h.From == id {
			return true
		}
	}
	return false
}

// Move pays from an account to another (P2.4).
func (l *Ledger) Move(from, to, amount uint64) api.Errno {
	if !l.made() {
		return api.ErrZero
	}
	payer, payerKnown := l.accounts[from]
	payee, payeeKnown := l.accounts[to]
	switch {
	case from == 0 || to == 0:
		return api.ErrLedgerZero
	case !payerKnown || !payeeKnown:
		return api.ErrLedgerUnknown
	case from == to:
		return api.ErrLedgerSame
	case amount == 0:
		return api.ErrLedgerAmount
	case amount > payer.Balance:
		return api.ErrLedgerFunds
	case amount > room(payee):
		return api.ErrLedgerCap
	case l.journal.full(1):
		return api.ErrLedgerFull
	}
	payer.Balance -= amount
	payee.Balance += amount
	l.setAccount(payer)
	l.setAccount(payee)
	l.write(api.EntryMove, from, to, amount)
	return api.OK
}
