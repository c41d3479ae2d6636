package ledger_test

import (
	"testing"

	"quorum/api"
	"quorum/ledger"
)

// exampleA plays the chapter's example A up to its end.
func exampleA(t *testing.T) *ledger.Ledger {
	t.Helper()
	l := begun(t, pair()...)
	if l.Total() != 100 {
		t.Errorf("Total %d, want 100", l.Total())
	}
	play(t, l,
		move(1, 2, 50, api.OK),
		move(1, 2, 1, api.ErrLedgerCap),
		move(1, 2, 60, api.ErrLedgerFunds),
		move(2, 2, 9, api.ErrLedgerSame),
		move(1, 3, 0, api.ErrLedgerUnknown),
		move(0, 3, 0, api.ErrLedgerZero))
	return l
}

// exampleB goes on from A.
func exampleB(t *testing.T) *ledger.Ledger {
	t.Helper()
	l := exampleA(t)
	play(t, l, hold(9, 1, 30, api.OK), pay(9, 2, 1, api.ErrLedgerCap), pay(9, 1, 10, api.OK))
	if h, why := l.Held(9); why != api.OK || h != (api.Hold{ID: 9, From: 1, Amount: 20}) {
		t.Errorf("Held(9): %v, %d", h, why)
	}
	play(t, l,
		closed(1, api.ErrLedgerBusy),
		settle(9, api.ErrLedgerShares, api.Share{To: 1, Amount: 5}, api.Share{To: 1, Amount: 14}),
		settle(9, api.OK, api.Share{To: 1, Amount: 20}))
	return l
}

func TestExampleA(t *testing.T) {
	isImage(t, "A", exampleA(t), api.LedgerImage{
		Total:    100,
		Next:     2,
		Accounts: []api.Account{{ID: 1, Owner: 300, Balance: 50, Cap: 200}, {ID: 2, Owner: 301, Balance: 50, Cap: 50}},
		Journal:  []api.Entry{{Seq: 1, Kind: api.EntryMove, From: 1, To: 2, Amount: 50}},
	})
}

func TestExampleB(t *testing.T) {
	if img := exampleB(t).Image(); img.Holds != nil || img.Next != 5 {
		t.Errorf("B: %v", img)
	}
}

func TestExampleC(t *testing.T) {
	l := exampleB(t)
	was := l.Image()
	play(t, l, marked(1), create(5, 300, 10, api.OK), marked(2), move(1, 5, 10, api.OK), undo(1, api.OK))
	isImage(t, "C", l, was)
	play(t, l, undo(1, api.ErrLedgerMark))
}

func TestExampleD(t *testing.T) {
	l, err := ledger.New([]api.Account{{ID: 1, Owner: 300, Balance: most, Cap: most}, {ID: 2, Owner: 300, Balance: 1, Cap: 1}})
	refused(t, "above 2^64 - 1", l, err, api.ErrLedgerTotal, 1)
	l, err = ledger.New([]api.Account{{ID: 1, Owner: 300, Balance: 5, Cap: 4}})
	refused(t, "above its cap", l, err, api.ErrLedgerCap, 0)
	l, err = ledger.New([]api.Account{{ID: 1, Owner: 300, Balance: 5, Cap: 5}, {ID: 1, Owner: 300, Balance: 9, Cap: 8}})
	refused(t, "twice", l, err, api.ErrLedgerTaken, 1)
}

func TestExampleE(t *testing.T) {
	l := begun(t, api.Account{ID: 1, Balance: 5, Cap: 5}, api.Account{ID: 2, Cap: most})
	play(t, l, hold(9, 1, 5, api.OK), settle(9, api.ErrLedgerShares, api.Share{To: 2, Amount: most}, api.Share{To: 2, Amount: 6}))
}
