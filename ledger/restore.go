package ledger

import (
	"slices"

	"quorum/api"
)

// Restore gives the ledger of that image (P2.11).
func Restore(img api.LedgerImage) (*Ledger, error) {
	checks := []func(api.LedgerImage) (int, api.Errno){sizeFault, accountsFault, holdsFault, totalFault, linesFault}
	for _, check := range checks {
		if at, why := check(img); why != api.OK {
			return nil, refusal(at, why)
		}
	}
	l := blank()
	l.total = img.Total
	for _, a := range img.Accounts {
		l.accounts[a.ID] = a
	}
	for _, h := range img.Holds {
		l.holds[h.ID] = h
	}
	l.journal.next = img.Next
	for _, e := range img.Journal {
		l.journal.ring[e.Seq%api.MaxJournal] = e
	}
	return l, nil
}

func sizeFault(img api.LedgerImage) (int, api.Errno) {
	if len(img.Accounts) > api.MaxAccts || len(img.Holds) > api.MaxHolds {
		return 0, api.ErrLedgerFull
	}
	return 0, api.OK
}

func accountsFault(img api.LedgerImage) (int, api.Errno) {
	last := uint64(0)
	for at, a := range img.Accounts {
		switch {
		case a.ID == 0:
			return at, api.ErrLedgerZero
		case a.ID <= last:
			return at, api.ErrImage
		case a.Balance > a.Cap:
			return at, api.ErrLedgerCap
		}
		last = a.ID
	}
	return 0, api.OK
}

func holdsFault(img api.LedgerImage) (int, api.Errno) {
	last := uint64(0)
	for at, h := range img.Holds {
		ofIt := func(a api.Account) bool { return a.ID == h.From }
		switch {
		case h.ID == 0:
			return at, api.ErrLedgerZero
		case h.ID <= last:
			return at, api.ErrImage
		case !slices.ContainsFunc(img.Accounts, ofIt):
			return at, api.ErrLedgerUnknown
		case h.Amount == 0:
			return at, api.ErrLedgerAmount
		}
		last = h.ID
	}
	return 0, api.OK
}

func totalFault(img api.LedgerImage) (int, api.Errno) {
	var money []uint64
	for _, a := range img.Accounts {
		money = append(money, a.Balance)
	}
	for _, h := range img.Holds {
		money = append(money, h.Amount)
	}
	if !makeUp(img.Total, money) {
		return 0, api.ErrLedgerTotal
	}
	return 0, api.OK
}

func linesFault(img api.LedgerImage) (int, api.Errno) {
	n := len(img.Journal)
	if img.Next == 0 || img.Next > api.MaxLine || n != linesAt(img.Next) {
		return 0, api.ErrImage
	}
	first := img.Next - uint64(n)
	for at, e := range img.Journal {
		if e.Seq != first+uint64(at) || e.Kind < api.EntryCreate || e.Kind > api.EntryPay {
			return at, api.ErrImage
		}
	}
	return 0, api.OK
}
