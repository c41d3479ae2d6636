package ledger_test

import (
	"slices"
	"testing"

	"quorum/api"
	"quorum/ledger"
)

func TestP2_1New(t *testing.T) {
	l := begun(t,
		api.Account{ID: 9, Owner: 7, Balance: 3, Cap: 3},
		api.Account{ID: 1, Owner: 0, Balance: 0, Cap: 0},
		api.Account{ID: most, Owner: most, Balance: 4, Cap: most},
		api.Account{ID: 5, Owner: 7, Balance: 0, Cap: 8})
	isImage(t, "New", l, api.LedgerImage{
		Total: 7,
		Next:  1,
		Accounts: []api.Account{
			{ID: 1}, {ID: 5, Owner: 7, Cap: 8}, {ID: 9, Owner: 7, Balance: 3, Cap: 3}, {ID: most, Owner: most, Balance: 4, Cap: most},
		},
	})
	if l.Total() != 7 {
		t.Errorf("Total %d, want 7", l.Total())
	}
	play(t, l, undo(1, api.ErrLedgerMark), keep(1, api.ErrLedgerMark))
}

func TestP2_1NewWithoutAccounts(t *testing.T) {
	for _, list := range [][]api.Account{nil, {}} {
		l := begun(t, list...)
		isImage(t, "New of nothing", l, api.LedgerImage{Next: 1})
		if l.Total() != 0 {
			t.Errorf("Total %d, want 0", l.Total())
		}
		play(t, l, create(3, 300, 4, api.OK))
	}
}

func TestP2_1NewAtTheLimits(t *testing.T) {
	l := begun(t, numbered(64)...)
	isImage(t, "64 accounts", l, api.LedgerImage{Total: 128, Next: 1, Accounts: numbered(64)})
	rich := begun(t, api.Account{ID: 1, Balance: most - 5, Cap: most}, api.Account{ID: 2, Balance: 5, Cap: 5}, api.Account{ID: 3, Cap: 4})
	if rich.Total() != most {
		t.Errorf("Total %d, want the greatest number", rich.Total())
	}
}

func TestP2_1NewRefuses(t *testing.T) {
	many := numbered(65)
	many[2] = api.Account{Balance: 1}
	full := api.Account{ID: 1, Balance: most, Cap: most}
	for _, c := range []struct {
		what string
		list []api.Account
		why  api.Errno
		at   int
	}{
		{"65 accounts", numbered(65), api.ErrLedgerFull, 0},
		{"65 accounts with other faults", many, api.ErrLedgerFull, 0},
		{"number 0, first", []api.Account{{}}, api.ErrLedgerZero, 0},
		{"number 0, with all other faults", []api.Account{full, {Balance: 2, Cap: 1}}, api.ErrLedgerZero, 1},
		{"twice, and above its cap", []api.Account{{ID: 1, Balance: 5, Cap: 5}, {ID: 1, Balance: 9, Cap: 8}}, api.ErrLedgerTaken, 1},
		{"twice, apart", []api.Account{{ID: 3}, {ID: 1}, {ID: 3}, {}}, api.ErrLedgerTaken, 2},
		{"one above its cap", []api.Account{{ID: 2}, {ID: 1, Balance: 5, Cap: 4}}, api.ErrLedgerCap, 1},
		{"above a cap of 0", []api.Account{{ID: 1, Balance: 1}}, api.ErrLedgerCap, 0},
		{"above its cap, and a sum that wraps", []api.Account{full, {ID: 2, Balance: 2, Cap: 1}}, api.ErrLedgerCap, 1},
		{"a sum of 2^64", []api.Account{full, {ID: 2, Balance: 1, Cap: 1}}, api.ErrLedgerTotal, 1},
		{"a sum of 2^64, of three", []api.Account{{ID: 4, Balance: 1 << 63, Cap: most}, {ID: 2, Balance: 1<<63 - 1, Cap: most}, {ID: 3, Balance: 1, Cap: 1}}, api.ErrLedgerTotal, 2},
		{"the first of several", []api.Account{full, {ID: 2, Balance: most, Cap: most}, {}}, api.ErrLedgerTotal, 1},
	} {
		l, err := ledger.New(c.list)
		refused(t, c.what, l, err, c.why, c.at)
	}
}

func TestP2_13NewKeepsNothing(t *testing.T) {
	in := []api.Account{{ID: 7, Balance: 9, Cap: 9}, {ID: 2, Cap: 9}, {ID: 5}}
	was := slices.Clone(in)
	l := begun(t, in...)
	byList, err := ledger.New(in)
	if err != nil || !slices.Equal(in, was) {
		t.Errorf("New changed its list to %v, %v", in, err)
	}
	image := byList.Image()
	for i := range in {
		in[i] = api.Account{ID: 99, Balance: 1}
	}
	isImage(t, "the list was written over", byList, image)
	isImage(t, "the same list", l, image)
}
