package ledger

import (
	"iter"
	"maps"
	"slices"

	"quorum/api"
)

// Account tells an account (P2.10).
func (l *Ledger) Account(id uint64) (api.Account, api.Errno) {
	if !l.made() {
		return api.Account{}, api.ErrZero
	}
	return find(l.accounts, id)
}

// Held tells a hold (P2.10).
func (l *Ledger) Held(hold uint64) (api.Hold, api.Errno) {
	if !l.made() {
		return api.Hold{}, api.ErrZero
	}
	return find(l.holds, hold)
}

// find tells what has a number. Nothing ever has the number 0.
func find[T any](m map[uint64]T, id uint64) (T, api.Errno) {
	v, known := m[id]
	switch {
	case id == 0:
		return v, api.ErrLedgerZero
	case !known:
		return v, api.ErrLedgerUnknown
	}
	return v, api.OK
}

// rising gives all that a map has, in the order of the numbers.
func rising[T any](m map[uint64]T) []T {
	if len(m) == 0 {
		return nil
	}
	list := make([]T, 0, len(m))
	for _, id := range slices.Sorted(maps.Keys(m)) {
		list = append(list, m[id])
	}
	return list
}

// Accounts gives all accounts to range over, rising (P2.10).
func (l *Ledger) Accounts() iter.Seq[api.Account] {
	return func(yield func(api.Account) bool) {
		if !l.made() || yield == nil {
			return
		}
		// The list is made when the ranging begins, so that the body may change the ledger.
		for _, a := range rising(l.accounts) {
			if !yield(a) {
				return
			}
		}
	}
}

// Total tells what the ledger was begun with (P2.10).
func (l *Ledger) Total() uint64 {
	if !l.made() {
		return 0
	}
	return l.total
}

// Image tells the ledger as plain data (P2.10).
func (l *Ledger) Image() api.LedgerImage {
	if !l.made() {
		return api.LedgerImage{}
	}
	return api.LedgerImage{
		Total:    l.total,
		Next:     l.journal.next,
		Accounts: rising(l.accounts),
		Holds:    rising(l.holds),
		Journal:  l.journal.lines(),
	}
}
