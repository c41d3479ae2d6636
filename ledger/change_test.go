package ledger_test

import (
	"testing"

	"quorum/api"
)

func TestP2_2Create(t *testing.T) {
	l := begun(t, api.Account{ID: 2, Owner: 301, Balance: 5, Cap: 50})
	play(t, l,
		create(0, 5, 5, api.ErrLedgerZero),
		create(2, 5, 5, api.ErrLedgerTaken),
		create(9, 303, 7, api.OK),
		create(9, 303, 7, api.ErrLedgerTaken),
		create(most, most, most, api.OK),
		create(1, 0, 0, api.OK))
	isImage(t, "Create", l, api.LedgerImage{
		Total:    5,
		Next:     4,
		Accounts: []api.Account{{ID: 1}, {ID: 2, Owner: 301, Balance: 5, Cap: 50}, {ID: 9, Owner: 303, Cap: 7}, {ID: most, Owner: most, Cap: most}},
		Journal: []api.Entry{
			{Seq: 1, Kind: 1, From: 9, Amount: 7}, {Seq: 2, Kind: 1, From: most, Amount: most}, {Seq: 3, Kind: 1, From: 1},
		},
	})
	play(t, l, move(2, 1, 1, api.ErrLedgerCap), move(2, 9, 5, api.OK))
}

func TestP2_2CreateAtTheLimit(t *testing.T) {
	l := begun(t, numbered(63)...)
	play(t, l,
		create(70, 1, 1, api.OK),
		create(71, 1, 1, api.ErrLedgerFull),
		create(70, 1, 1, api.ErrLedgerTaken),
		create(0, 1, 1, api.ErrLedgerZero),
		closed(70, api.OK),
		create(71, 1, 1, api.OK),
		create(72, 1, 1, api.ErrLedgerFull))
}

func TestP2_3Close(t *testing.T) {
	l := begun(t, api.Account{ID: 1, Owner: 300, Balance: 6, Cap: 9}, api.Account{ID: 2, Owner: 301, Cap: 9}, api.Account{ID: 4, Cap: 9})
	play(t, l,
		closed(0, api.ErrLedgerZero),
		closed(3, api.ErrLedgerUnknown),
		closed(1, api.ErrLedgerBusy),
		hold(2, 1, 6, api.OK), // the number of a hold says nothing of the account of that number
		closed(1, api.ErrLedgerBusy),
		closed(2, api.OK),
		closed(2, api.ErrLedgerUnknown),
		pay(2, 2, 6, api.ErrLedgerUnknown),
		pay(2, 4, 6, api.OK),
		closed(1, api.OK),
		create(1, 400, 3, api.OK))
	isImage(t, "Close", l, api.LedgerImage{
		Total:    6,
		Next:     6,
		Accounts: []api.Account{{ID: 1, Owner: 400, Cap: 3}, {ID: 4, Balance: 6, Cap: 9}},
		Journal: []api.Entry{
			{Seq: 1, Kind: 4, From: 1, To: 2, Amount: 6},
			{Seq: 2, Kind: 2, From: 2},
			{Seq: 3, Kind: 5, From: 2, To: 4, Amount: 6},
			{Seq: 4, Kind: 2, From: 1},
			{Seq: 5, Kind: 1, From: 1, Amount: 3},
		},
	})
}

func TestP2_3CloseAll(t *testing.T) {
	l := begun(t, api.Account{ID: 5}, api.Account{ID: 6})
	play(t, l, closed(5, api.OK), closed(6, api.OK))
	isImage(t, "all are closed", l, api.LedgerImage{Next: 3, Journal: []api.Entry{{Seq: 1, Kind: 2, From: 5}, {Seq: 2, Kind: 2, From: 6}}})
}

func TestP2_3CloseLooksAtEveryHold(t *testing.T) {
	l := begun(t, api.Account{ID: 1, Balance: 3, Cap: 3}, api.Account{ID: 2, Balance: 3, Cap: 3}, api.Account{ID: 3, Balance: 3, Cap: 3})
	for i := uint64(1); i <= 3; i++ {
		play(t, l, hold(10-i, i, 3, api.OK))
	}
	for i := uint64(1); i <= 3; i++ {
		play(t, l, closed(i, api.ErrLedgerBusy))
	}
	play(t, l, settle(8, api.OK, api.Share{To: 2, Amount: 3}), closed(2, api.ErrLedgerBusy), hold(8, 2, 3, api.OK), pay(8, 2, 3, api.OK), closed(1, api.ErrLedgerBusy))
}

func TestP2_4Move(t *testing.T) {
	l := begun(t, api.Account{ID: 1, Balance: 100, Cap: 200}, api.Account{ID: 2, Balance: 3, Cap: 50}, api.Account{ID: 3, Balance: most - 200, Cap: most})
	play(t, l,
		move(0, 2, 1, api.ErrLedgerZero),
		move(1, 0, 1, api.ErrLedgerZero),
		move(0, 0, 0, api.ErrLedgerZero),
		move(0, 9, 0, api.ErrLedgerZero),
		move(9, 0, 0, api.ErrLedgerZero),
		move(9, 2, 1, api.ErrLedgerUnknown),
		move(2, 9, 1, api.ErrLedgerUnknown),
		move(9, 9, 0, api.ErrLedgerUnknown),
		move(2, 2, 0, api.ErrLedgerSame),
		move(2, 2, 4, api.ErrLedgerSame),
		move(2, 1, 0, api.ErrLedgerAmount),
		move(1, 2, 101, api.ErrLedgerFunds),
		move(1, 2, most, api.ErrLedgerFunds),
		move(1, 2, 48, api.ErrLedgerCap),
		move(3, 1, most-200, api.ErrLedgerCap), // 100 and that would wrap
		move(3, 1, most-250, api.ErrLedgerCap),
		move(3, 1, 101, api.ErrLedgerCap),
		move(1, 2, 47, api.OK),
		move(3, 1, 147, api.OK),
		move(1, 3, 200, api.OK))
	isImage(t, "Move", l, api.LedgerImage{
		Total:    most - 97,
		Next:     4,
		Accounts: []api.Account{{ID: 1, Balance: 0, Cap: 200}, {ID: 2, Balance: 50, Cap: 50}, {ID: 3, Balance: most - 147, Cap: most}},
		Journal: []api.Entry{
			{Seq: 1, Kind: 3, From: 1, To: 2, Amount: 47}, {Seq: 2, Kind: 3, From: 3, To: 1, Amount: 147}, {Seq: 3, Kind: 3, From: 1, To: 3, Amount: 200},
		},
	})
}

func TestP2_4MoveAllThereIs(t *testing.T) {
	l := begun(t, api.Account{ID: 1, Balance: most, Cap: most}, api.Account{ID: 2, Cap: most})
	play(t, l, move(1, 2, most, api.OK), move(1, 2, 1, api.ErrLedgerFunds), move(2, 1, most, api.OK))
}
