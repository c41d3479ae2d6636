package ledger_test

import (
	"errors"
	"reflect"
	"slices"
	"testing"

	"quorum/api"
	"quorum/ledger"
)

const most = 1<<64 - 1

// refused wants no ledger, and a fault of this layer with just that number and place.
func refused(t *testing.T, what string, l *ledger.Ledger, err error, why api.Errno, at int) {
	t.Helper()
	f, ok := err.(*api.Fault)
	if !ok || f == nil {
		t.Errorf("%s: %v is no fault, want %d at %d", what, err, why, at)
		return
	}
	if l != nil || f.Layer != "ledger" || f.At != at || f.Err != error(why) || !errors.Is(err, why) {
		t.Errorf("%s: ledger %v, refused with %v, want %d at %d", what, l != nil, err, why, at)
	}
}

// begun gives a ledger with these accounts.
func begun(t testing.TB, accounts ...api.Account) *ledger.Ledger {
	t.Helper()
	l, err := ledger.New(accounts)
	if l == nil || err != nil {
		t.Fatalf("New(%v): %v", accounts, err)
	}
	return l
}

// restored gives the ledger of an image that is in order.
func restored(t testing.TB, img api.LedgerImage) *ledger.Ledger {
	t.Helper()
	l, err := ledger.Restore(img)
	if l == nil || err != nil {
		t.Fatalf("Restore(%v): %v", img, err)
	}
	return l
}

// answers holds what a call answered against what is wanted.
func answers(t *testing.T, what string, got, want api.Errno) {
	t.Helper()
	if got != want {
		t.Errorf("%s: %d, want %d", what, got, want)
	}
}

// isImage holds a ledger's image against the one that is wanted, field by field; a list without elements must be nil.
func isImage(t *testing.T, what string, l *ledger.Ledger, want api.LedgerImage) {
	t.Helper()
	if got := l.Image(); !reflect.DeepEqual(got, want) {
		t.Errorf("%s: the image is\n%v, want\n%v", what, got, want)
	}
}

// step is a call, and what it must answer.
type step struct {
	what string
	call func(l *ledger.Ledger) api.Errno
	want api.Errno
}

// play does the steps one after the other; one that is refused must leave the ledger as it was.
func play(t *testing.T, l *ledger.Ledger, steps ...step) {
	t.Helper()
	for _, s := range steps {
		was := l.Image()
		got := s.call(l)
		answers(t, s.what, got, s.want)
		if got != api.OK {
			isImage(t, s.what+" was refused", l, was)
		}
	}
}

func create(id, owner, most uint64, want api.Errno) step {
	return step{"Create", func(l *ledger.Ledger) api.Errno { return l.Create(id, owner, most) }, want}
}

func closed(id uint64, want api.Errno) step {
	return step{"Close", func(l *ledger.Ledger) api.Errno { return l.Close(id) }, want}
}

func move(from, to, amount uint64, want api.Errno) step {
	return step{"Move", func(l *ledger.Ledger) api.Errno { return l.Move(from, to, amount) }, want}
}

func hold(id, from, amount uint64, want api.Errno) step {
	return step{"Hold", func(l *ledger.Ledger) api.Errno { return l.Hold(id, from, amount) }, want}
}

func pay(id, to, amount uint64, want api.Errno) step {
	return step{"Pay", func(l *ledger.Ledger) api.Errno { return l.Pay(id, to, amount) }, want}
}

func settle(id uint64, want api.Errno, shares ...api.Share) step {
	return step{"Settle", func(l *ledger.Ledger) api.Errno { return l.Settle(id, shares) }, want}
}

func marked(want int) step {
	return step{"Mark", func(l *ledger.Ledger) api.Errno {
		n, why := l.Mark()
		if n != want {
			return -1
		}
		return why
	}, api.OK}
}

func undo(mark int, want api.Errno) step {
	return step{"Undo", func(l *ledger.Ledger) api.Errno { return l.Undo(mark) }, want}
}

func keep(mark int, want api.Errno) step {
	return step{"Keep", func(l *ledger.Ledger) api.Errno { return l.Keep(mark) }, want}
}

// numbered gives accounts with the numbers 1 to n.
func numbered(n int) []api.Account {
	list := make([]api.Account, n)
	for i := range list {
		list[i] = api.Account{ID: uint64(i) + 1, Owner: 300, Balance: 2, Cap: 200}
	}
	return list
}

// late gives the image of a ledger whose next line has that number, with two accounts, a hold of 6 with number 4, and as many lines as there must be.
func late(next uint64) api.LedgerImage {
	img := api.LedgerImage{
		Total:    20,
		Next:     next,
		Accounts: []api.Account{{ID: 1, Owner: 300, Balance: 14, Cap: 90}, {ID: 2, Owner: 301, Cap: 90}},
		Holds:    []api.Hold{{ID: 4, From: 1, Amount: 6}},
	}
	for seq := next - min(next-1, 64); seq < next; seq++ {
		img.Journal = append(img.Journal, api.Entry{Seq: seq, Kind: int(seq%5) + 1, From: seq, To: 7, Amount: 9})
	}
	return img
}

// twin gives an image of the same things that shares no memory with the first.
func twin(img api.LedgerImage) api.LedgerImage {
	img.Accounts = slices.Clone(img.Accounts)
	img.Holds = slices.Clone(img.Holds)
	img.Journal = slices.Clone(img.Journal)
	return img
}

// dice gives numbers that look like any, the same ones in every run.
type dice struct{ state uint64 }

func (d *dice) below(n int) int {
	d.state = d.state*6364136223846793005 + 1442695040888963407
	return int((d.state ^ d.state>>29) >> 3 % uint64(n))
}

// id gives the number of an account or a hold: seldom 0, always small, so that they meet.
func (d *dice) id(n int) uint64 { return uint64(min(d.below(4*n+1), d.below(n)+1)) }

// amount gives mostly small sums, and some that wrap if they are added up.
func (d *dice) amount() uint64 {
	if d.below(12) == 0 {
		return most - uint64(d.below(3))
	}
	return uint64(d.below(15))
}
