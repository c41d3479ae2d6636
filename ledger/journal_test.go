package ledger_test

import (
	"slices"
	"testing"

	"quorum/api"
)

// The last 64 lines are kept, oldest first.
func TestP2_9LinesThatAreKept(t *testing.T) {
	l := begun(t, api.Account{ID: 1, Balance: 500, Cap: 500}, api.Account{ID: 2, Cap: 500})
	var all []api.Entry
	for n := uint64(1); n <= 200; n++ {
		from, to := 2-n%2, 1+n%2
		amount := (n+1)/2%9 + 1
		play(t, l, move(from, to, amount, api.OK))
		all = append(all, api.Entry{Seq: n, Kind: 3, From: from, To: to, Amount: amount})
		img := l.Image()
		if img.Next != n+1 || !slices.Equal(img.Journal, all[max(0, len(all)-64):]) {
			t.Fatalf("behind %d lines: Next %d, lines %v", n, img.Next, img.Journal)
		}
	}
}

func TestP2_9JournalIsFull(t *testing.T) {
	share := func(amounts ...uint64) []api.Share {
		var list []api.Share
		for _, a := range amounts {
			list = append(list, api.Share{To: 2, Amount: a})
		}
		return list
	}
	calls := []step{
		create(5, 1, 1, api.OK),
		closed(2, api.OK),
		move(1, 2, 3, api.OK),
		hold(6, 1, 3, api.OK),
		pay(4, 2, 3, api.OK),
		settle(4, api.OK, share(6)...),
		settle(4, api.OK, share(1, 2, 3)...),
	}
	for i, c := range calls {
		n := uint64(1)
		if i == 6 {
			n = 3
		}
		play(t, restored(t, late(1<<62-n)), c)
		play(t, restored(t, late(1<<62-200)), c)
		c.want = api.ErrLedgerFull
		for at := uint64(0); at < n; at++ {
			play(t, restored(t, late(1<<62-at)), c)
		}
	}
}

// A journal that is full is the last of all reasons.
func TestP2_9OtherReasonsFirst(t *testing.T) {
	play(t, restored(t, late(1<<62)),
		create(0, 1, 1, api.ErrLedgerZero),
		create(1, 1, 1, api.ErrLedgerTaken),
		closed(0, api.ErrLedgerZero),
		closed(3, api.ErrLedgerUnknown),
		closed(1, api.ErrLedgerBusy),
		move(0, 1, 1, api.ErrLedgerZero),
		move(1, 3, 1, api.ErrLedgerUnknown),
		move(1, 1, 1, api.ErrLedgerSame),
		move(1, 2, 0, api.ErrLedgerAmount),
		move(1, 2, 15, api.ErrLedgerFunds),
		hold(0, 1, 1, api.ErrLedgerZero),
		hold(4, 1, 1, api.ErrLedgerTaken),
		hold(5, 3, 1, api.ErrLedgerUnknown),
		hold(5, 1, 0, api.ErrLedgerAmount),
		hold(5, 1, 15, api.ErrLedgerFunds),
		pay(4, 0, 1, api.ErrLedgerZero),
		pay(5, 1, 1, api.ErrLedgerUnknown),
		pay(4, 1, 0, api.ErrLedgerAmount),
		pay(4, 1, 7, api.ErrLedgerFunds),
		settle(0, api.ErrLedgerZero),
		settle(5, api.ErrLedgerUnknown),
		settle(4, api.ErrLedgerShares),
		settle(4, api.ErrLedgerAmount, api.Share{To: 1}),
		settle(4, api.ErrLedgerShares, api.Share{To: 1, Amount: 5}))
	tight := late(1 << 62)
	tight.Accounts[1].Cap = 5
	play(t, restored(t, tight),
		move(1, 2, 6, api.ErrLedgerCap),
		pay(4, 2, 6, api.ErrLedgerCap),
		settle(4, api.ErrLedgerCap, api.Share{To: 2, Amount: 6}))
}

// Marks need no lines, and Undo makes room again.
func TestP2_9MarksAtTheEnd(t *testing.T) {
	l := restored(t, late(1<<62-1))
	play(t, l, marked(1), move(1, 2, 1, api.OK), move(1, 2, 1, api.ErrLedgerFull), marked(2), keep(2, api.OK), undo(1, api.OK))
	isImage(t, "Undo at the last line", l, late(1<<62-1))
	play(t, l, move(1, 2, 1, api.OK), move(1, 2, 1, api.ErrLedgerFull))
	if next := l.Image().Next; next != 1<<62 {
		t.Errorf("Next is %d, want 2^62", next)
	}
}
