package ledger_test

import (
	"slices"
	"testing"

	"quorum/api"
	"quorum/ledger"
)

func TestP2_10AccountAndHeld(t *testing.T) {
	l := begun(t, api.Account{ID: 7, Owner: 300, Balance: 9, Cap: 20}, api.Account{ID: 8, Owner: 301, Cap: 20})
	play(t, l, hold(8, 7, 4, api.OK), hold(5, 7, 1, api.OK))
	for _, c := range []struct {
		id      uint64
		account api.Account
		a       api.Errno
		hold    api.Hold
		h       api.Errno
	}{
		{0, api.Account{}, api.ErrLedgerZero, api.Hold{}, api.ErrLedgerZero},
		{4, api.Account{}, api.ErrLedgerUnknown, api.Hold{}, api.ErrLedgerUnknown},
		{5, api.Account{}, api.ErrLedgerUnknown, api.Hold{ID: 5, From: 7, Amount: 1}, api.OK},
		{7, api.Account{ID: 7, Owner: 300, Balance: 4, Cap: 20}, api.OK, api.Hold{}, api.ErrLedgerUnknown},
		{8, api.Account{ID: 8, Owner: 301, Cap: 20}, api.OK, api.Hold{ID: 8, From: 7, Amount: 4}, api.OK},
		{most, api.Account{}, api.ErrLedgerUnknown, api.Hold{}, api.ErrLedgerUnknown},
	} {
		if a, why := l.Account(c.id); a != c.account || why != c.a {
			t.Errorf("Account(%d): %v, %d, want %v, %d", c.id, a, why, c.account, c.a)
		}
		if h, why := l.Held(c.id); h != c.hold || why != c.h {
			t.Errorf("Held(%d): %v, %d, want %v, %d", c.id, h, why, c.hold, c.h)
		}
	}
}

func TestP2_10TotalStays(t *testing.T) {
	l := begun(t, api.Account{ID: 7, Balance: 9, Cap: 20}, api.Account{ID: 8, Cap: 20})
	play(t, l, hold(8, 7, 4, api.OK), move(7, 8, 5, api.OK), marked(1), settle(8, api.OK, api.Share{To: 8, Amount: 4}), closed(7, api.OK))
	if l.Total() != 9 || l.Image().Total != 9 {
		t.Errorf("Total %d, want 9", l.Total())
	}
}

// The image has what a mark could still take back, and no trace of the mark.
func TestP2_10ImageBehindMarks(t *testing.T) {
	plain, under := begun(t, pair()...), begun(t, pair()...)
	play(t, under, marked(1))
	for _, l := range []*ledger.Ledger{plain, under} {
		play(t, l, hold(3, 1, 4, api.OK), move(1, 2, 5, api.OK))
	}
	play(t, under, marked(2))
	isImage(t, "with marks", under, plain.Image())
}

func numbersOf(l *ledger.Ledger) []uint64 {
	var ids []uint64
	for a := range l.Accounts() {
		ids = append(ids, a.ID)
	}
	return ids
}

func TestP2_10AccountsRise(t *testing.T) {
	var list []api.Account
	var want []uint64
	for i := range uint64(64) {
		list = append(list, api.Account{ID: i*37%64*1000 + 1, Owner: i})
		want = append(want, i*1000+1)
	}
	l := begun(t, list...)
	for range 5 {
		if got := numbersOf(l); !slices.Equal(got, want) {
			t.Fatalf("Accounts: %v", got)
		}
	}
	if got := slices.Collect(l.Accounts()); !slices.Equal(got, l.Image().Accounts) {
		t.Errorf("Accounts: %v", got)
	}
	if got := numbersOf(begun(t)); got != nil {
		t.Errorf("Accounts of no accounts: %v", got)
	}
}

// What the body of a ranging changes is seen by the next one alone.
func TestP2_10AccountsWhileItChanges(t *testing.T) {
	l := begun(t, api.Account{ID: 9, Cap: 3}, api.Account{ID: 2, Balance: 3, Cap: 9}, api.Account{ID: 5, Cap: 2})
	all := l.Accounts()
	play(t, l, create(4, 1, 1, api.OK)) // ahead of the ranging, so it's seen
	var got []api.Account
	for a := range all {
		got = append(got, a)
		if a.ID == 2 {
			play(t, l, create(7, 1, 1, api.OK), move(2, 9, 3, api.OK), closed(5, api.OK))
		}
	}
	if want := []api.Account{{ID: 2, Balance: 3, Cap: 9}, {ID: 4, Owner: 1, Cap: 1}, {ID: 5, Cap: 2}, {ID: 9, Cap: 3}}; !slices.Equal(got, want) {
		t.Errorf("the first ranging: %v, want %v", got, want)
	}
	if got, want := slices.Collect(all), l.Image().Accounts; len(got) != 4 || !slices.Equal(got, want) {
		t.Errorf("the second ranging: %v, want %v", got, want)
	}
}

func TestP2_10AccountsLeftEarly(t *testing.T) {
	l := begun(t, numbered(9)...)
	was := l.Image()
	all := l.Accounts()
	for n := range 9 {
		seen := 0
		for range all {
			if seen++; seen > n {
				break
			}
		}
		if seen != n+1 {
			t.Errorf("%d accounts were seen, want %d", seen, n+1)
		}
		isImage(t, "left early", l, was)
	}
	within := 0
	for a := range all {
		for b := range all {
			if b.ID > a.ID {
				break
			}
			within++
		}
	}
	if within != 45 {
		t.Errorf("a ranging within a ranging: %d, want 45", within)
	}
	all(nil)
}

func TestP2_13ImageIsNewMemory(t *testing.T) {
	l := begun(t, pair()...)
	play(t, l, hold(3, 1, 4, api.OK), move(1, 2, 5, api.OK))
	want := twin(l.Image())
	first, second := l.Image(), l.Image()
	scribble(&first)
	isImage(t, "an image was written over", l, want)
	if !slices.Equal(second.Accounts, want.Accounts) || !slices.Equal(second.Holds, want.Holds) || !slices.Equal(second.Journal, want.Journal) {
		t.Errorf("two images share memory: %v", second)
	}
	play(t, l, move(1, 2, 6, api.OK))
	if !slices.Equal(second.Accounts, want.Accounts) || !slices.Equal(second.Journal, want.Journal) {
		t.Errorf("an image changes with its ledger: %v", second)
	}
}

// scribble writes over all that an image's lists have, the spare room behind their ends included.
func scribble(img *api.LedgerImage) {
	for i := range img.Accounts[:cap(img.Accounts)] {
		img.Accounts[:cap(img.Accounts)][i] = api.Account{ID: 77}
	}
	for i := range img.Holds[:cap(img.Holds)] {
		img.Holds[:cap(img.Holds)][i] = api.Hold{ID: 77}
	}
	for i := range img.Journal[:cap(img.Journal)] {
		img.Journal[:cap(img.Journal)][i] = api.Entry{Seq: 77}
	}
}

// A ledger that neither New nor Restore gave answers nothing, ever.
func TestP2_10NobodysLedger(t *testing.T) {
	var none *ledger.Ledger
	for _, l := range []*ledger.Ledger{none, {}, new(ledger.Ledger)} {
		for range 2 {
			play(t, l,
				create(1, 1, 1, api.ErrZero), create(0, 1, 1, api.ErrZero), closed(1, api.ErrZero), closed(0, api.ErrZero),
				move(1, 2, 3, api.ErrZero), move(0, 0, 0, api.ErrZero), hold(1, 1, 1, api.ErrZero), hold(0, 0, 0, api.ErrZero),
				pay(1, 1, 1, api.ErrZero), pay(0, 0, 0, api.ErrZero), settle(1, api.ErrZero, api.Share{To: 1, Amount: 1}), settle(0, api.ErrZero),
				undo(1, api.ErrZero), undo(0, api.ErrZero), keep(1, api.ErrZero), keep(0, api.ErrZero))
			if n, why := l.Mark(); n != 0 || why != api.ErrZero {
				t.Errorf("Mark: %d, %d", n, why)
			}
			for _, id := range []uint64{0, 1} {
				if a, why := l.Account(id); a != (api.Account{}) || why != api.ErrZero {
					t.Errorf("Account: %v, %d", a, why)
				}
				if h, why := l.Held(id); h != (api.Hold{}) || why != api.ErrZero {
					t.Errorf("Held: %v, %d", h, why)
				}
			}
			if got := numbersOf(l); got != nil || l.Total() != 0 {
				t.Errorf("Accounts: %v, Total %d", got, l.Total())
			}
			isImage(t, "nobody's", l, api.LedgerImage{})
		}
	}
}
