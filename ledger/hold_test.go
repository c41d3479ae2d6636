package ledger_test

import (
	"slices"
	"testing"

	"quorum/api"
)

func TestP2_5Hold(t *testing.T) {
	l := begun(t, api.Account{ID: 1, Balance: 50, Cap: 60}, api.Account{ID: 2, Balance: most - 50, Cap: most})
	play(t, l,
		hold(0, 1, 1, api.ErrLedgerZero),
		hold(9, 0, 1, api.ErrLedgerZero),
		hold(0, 5, 0, api.ErrLedgerZero),
		hold(9, 3, 0, api.ErrLedgerUnknown),
		hold(9, 1, 0, api.ErrLedgerAmount),
		hold(9, 1, 51, api.ErrLedgerFunds),
		hold(9, 1, most, api.ErrLedgerFunds),
		hold(9, 1, 50, api.OK),
		hold(9, 0, 1, api.ErrLedgerZero),
		hold(9, 3, 0, api.ErrLedgerTaken),
		hold(9, 1, 0, api.ErrLedgerTaken),
		hold(3, 1, 1, api.ErrLedgerFunds),
		hold(1, 2, most-50, api.OK),
		hold(most, 2, 1, api.ErrLedgerFunds))
	isImage(t, "Hold", l, api.LedgerImage{
		Total:    most,
		Next:     3,
		Accounts: []api.Account{{ID: 1, Cap: 60}, {ID: 2, Cap: most}},
		Holds:    []api.Hold{{ID: 1, From: 2, Amount: most - 50}, {ID: 9, From: 1, Amount: 50}},
		Journal:  []api.Entry{{Seq: 1, Kind: 4, From: 1, To: 9, Amount: 50}, {Seq: 2, Kind: 4, From: 2, To: 1, Amount: most - 50}},
	})
}

func TestP2_5HoldAtTheLimit(t *testing.T) {
	l := begun(t, api.Account{ID: 1, Balance: 80, Cap: 80})
	for id := uint64(1); id <= 64; id++ {
		play(t, l, hold(id, 1, 1, api.OK))
	}
	play(t, l,
		hold(65, 1, 1, api.ErrLedgerFull),
		hold(65, 1, 17, api.ErrLedgerFunds),
		hold(65, 1, 0, api.ErrLedgerAmount),
		hold(64, 1, 1, api.ErrLedgerTaken),
		pay(30, 1, 1, api.OK),
		hold(65, 1, 17, api.OK),
		hold(30, 1, 1, api.ErrLedgerFunds))
	if n := len(l.Image().Holds); n != 64 {
		t.Errorf("%d holds, want 64", n)
	}
}

func TestP2_6Pay(t *testing.T) {
	l := begun(t, api.Account{ID: 1, Owner: 300, Balance: 60, Cap: 60}, api.Account{ID: 2, Owner: 301, Balance: 5, Cap: 15})
	play(t, l,
		hold(7, 1, 40, api.OK),
		pay(0, 2, 1, api.ErrLedgerZero),
		pay(7, 0, 1, api.ErrLedgerZero),
		pay(0, 9, 0, api.ErrLedgerZero),
		pay(8, 0, 0, api.ErrLedgerZero),
		pay(8, 2, 0, api.ErrLedgerUnknown),
		pay(7, 3, 0, api.ErrLedgerUnknown),
		pay(1, 2, 1, api.ErrLedgerUnknown), // an account's number is no hold's
		pay(7, 7, 1, api.ErrLedgerUnknown),
		pay(7, 2, 0, api.ErrLedgerAmount),
		pay(7, 2, 41, api.ErrLedgerFunds),
		pay(7, 2, most, api.ErrLedgerFunds),
		pay(7, 2, 11, api.ErrLedgerCap),
		pay(7, 2, 10, api.OK),
		pay(7, 2, 1, api.ErrLedgerCap),
		pay(7, 2, 31, api.ErrLedgerFunds),
		pay(7, 1, 29, api.OK))
	if h, why := l.Held(7); why != api.OK || h != (api.Hold{ID: 7, From: 1, Amount: 1}) {
		t.Errorf("Held(7): %v, %d", h, why)
	}
	play(t, l, pay(7, 1, 1, api.OK), pay(7, 1, 1, api.ErrLedgerUnknown), hold(7, 2, 3, api.OK))
	isImage(t, "Pay", l, api.LedgerImage{
		Total:    65,
		Next:     6,
		Accounts: []api.Account{{ID: 1, Owner: 300, Balance: 50, Cap: 60}, {ID: 2, Owner: 301, Balance: 12, Cap: 15}},
		Holds:    []api.Hold{{ID: 7, From: 2, Amount: 3}},
		Journal: []api.Entry{
			{Seq: 1, Kind: 4, From: 1, To: 7, Amount: 40},
			{Seq: 2, Kind: 5, From: 7, To: 2, Amount: 10},
			{Seq: 3, Kind: 5, From: 7, To: 1, Amount: 29},
			{Seq: 4, Kind: 5, From: 7, To: 1, Amount: 1},
			{Seq: 5, Kind: 4, From: 2, To: 7, Amount: 3},
		},
	})
}

func TestP2_6PayDoesNotWrap(t *testing.T) {
	l := begun(t, api.Account{ID: 1, Balance: most - 9, Cap: most}, api.Account{ID: 2, Balance: 9, Cap: 12})
	play(t, l, hold(3, 1, most-9, api.OK), pay(3, 2, most-9, api.ErrLedgerCap), pay(3, 2, most-10, api.ErrLedgerCap), pay(3, 2, 4, api.ErrLedgerCap), pay(3, 2, 3, api.OK), pay(3, 1, most-12, api.OK))
}

func TestP2_7SettleRefuses(t *testing.T) {
	l := begun(t, api.Account{ID: 1, Balance: 60, Cap: 60}, api.Account{ID: 2, Balance: 5, Cap: 15}, api.Account{ID: 3, Cap: most})
	play(t, l, hold(9, 1, 20, api.OK))
	one := api.Share{To: 1, Amount: 20}
	sixteen := slices.Repeat([]api.Share{{To: 1, Amount: 1}}, 16)
	play(t, l,
		settle(0, api.ErrLedgerZero),
		settle(0, api.ErrLedgerZero, one),
		settle(8, api.ErrLedgerUnknown),
		settle(1, api.ErrLedgerUnknown, one),
		settle(9, api.ErrLedgerShares),
		settle(9, api.ErrLedgerShares, []api.Share{}...),
		settle(9, api.ErrLedgerShares, slices.Repeat([]api.Share{{To: 0, Amount: 0}}, 17)...),
		settle(9, api.ErrLedgerShares, append(sixteen[:16:16], api.Share{To: 1, Amount: 4})...),
		settle(9, api.ErrLedgerShares, sixteen...),
		settle(9, api.ErrLedgerZero, api.Share{To: 0, Amount: 0}, api.Share{To: 4, Amount: 9}),
		settle(9, api.ErrLedgerZero, one, api.Share{Amount: 3}),
		settle(9, api.ErrLedgerUnknown, api.Share{To: 4, Amount: 0}, api.Share{}),
		settle(9, api.ErrLedgerUnknown, one, api.Share{To: 9, Amount: 3}),
		settle(9, api.ErrLedgerAmount, api.Share{To: 1, Amount: 0}, api.Share{}),
		settle(9, api.ErrLedgerAmount, one, api.Share{To: 2}),
		settle(9, api.ErrLedgerShares, api.Share{To: 1, Amount: 19}),
		settle(9, api.ErrLedgerShares, api.Share{To: 1, Amount: 21}),
		settle(9, api.ErrLedgerShares, one, one),
		settle(9, api.ErrLedgerShares, api.Share{To: 2, Amount: 19}), // above the cap too
		settle(9, api.ErrLedgerShares, api.Share{To: 3, Amount: most}, api.Share{To: 3, Amount: 21}),
		settle(9, api.ErrLedgerShares, api.Share{To: 3, Amount: 1 << 63}, api.Share{To: 3, Amount: 20}, api.Share{To: 3, Amount: 1 << 63}),
		settle(9, api.ErrLedgerCap, api.Share{To: 2, Amount: 11}, api.Share{To: 1, Amount: 9}),
		settle(9, api.ErrLedgerCap, api.Share{To: 1, Amount: 9}, api.Share{To: 2, Amount: 11}),
		settle(9, api.ErrLedgerCap, api.Share{To: 2, Amount: 5}, api.Share{To: 1, Amount: 9}, api.Share{To: 2, Amount: 6}))
}

func TestP2_7Settle(t *testing.T) {
	l := begun(t, api.Account{ID: 1, Balance: 60, Cap: 60}, api.Account{ID: 2, Balance: 5, Cap: 15})
	play(t, l,
		hold(9, 1, 20, api.OK),
		settle(9, api.OK, api.Share{To: 2, Amount: 4}, api.Share{To: 1, Amount: 10}, api.Share{To: 2, Amount: 6}),
		settle(9, api.ErrLedgerUnknown, api.Share{To: 1, Amount: 20}))
	isImage(t, "Settle", l, api.LedgerImage{
		Total:    65,
		Next:     5,
		Accounts: []api.Account{{ID: 1, Balance: 50, Cap: 60}, {ID: 2, Balance: 15, Cap: 15}},
		Journal: []api.Entry{
			{Seq: 1, Kind: 4, From: 1, To: 9, Amount: 20},
			{Seq: 2, Kind: 5, From: 9, To: 2, Amount: 4},
			{Seq: 3, Kind: 5, From: 9, To: 1, Amount: 10},
			{Seq: 4, Kind: 5, From: 9, To: 2, Amount: 6},
		},
	})
	play(t, l,
		hold(9, 1, 17, api.OK),
		pay(9, 1, 1, api.OK),
		settle(9, api.OK, slices.Repeat([]api.Share{{To: 1, Amount: 1}}, 16)...))
	if next := l.Image().Next; next != 23 {
		t.Errorf("behind 16 shares Next is %d, want 23", next)
	}
}

func TestP2_7SettleAllThereIs(t *testing.T) {
	l := begun(t, api.Account{ID: 1, Balance: most, Cap: most}, api.Account{ID: 2, Cap: 1 << 63})
	play(t, l,
		hold(3, 1, most, api.OK),
		settle(3, api.ErrLedgerCap, api.Share{To: 2, Amount: 1 << 63}, api.Share{To: 1, Amount: 1<<63 - 2}, api.Share{To: 2, Amount: 1}),
		settle(3, api.OK, api.Share{To: 2, Amount: 1 << 63}, api.Share{To: 1, Amount: 1<<63 - 1}))
}

func TestP2_13SettleKeepsNothing(t *testing.T) {
	l := begun(t, api.Account{ID: 1, Balance: 60, Cap: 60}, api.Account{ID: 2, Cap: 15})
	shares := []api.Share{{To: 2, Amount: 4}, {To: 1, Amount: 10}, {To: 2, Amount: 6}}
	was := slices.Clone(shares)
	play(t, l, hold(9, 1, 20, api.OK), marked(1))
	before := l.Image()
	answers(t, "Settle", l.Settle(9, shares), api.OK)
	if !slices.Equal(shares, was) {
		t.Errorf("Settle changed its list to %v", shares)
	}
	after := l.Image()
	for i := range shares {
		shares[i] = api.Share{To: 77, Amount: 77}
	}
	isImage(t, "the shares were written over", l, after)
	play(t, l, undo(1, api.OK))
	isImage(t, "and it was taken back", l, before)
}
