package deal_test

import (
	"bytes"
	"encoding/binary"
	"errors"
	"math/big"
	"reflect"
	"slices"
	"testing"

	"quorum/api"
	"quorum/deal"
)

const (
	most = 1<<64 - 1
	last = 1 << 62 // MaxLine
)

// The clients of the chapter's examples, and one who is nobody's party.
const (
	buyer    = 300
	seller   = 301
	arbiter  = 302
	stranger = 303
)

// six are the verbs of the actions.
var six = []api.Verb{api.VFund, api.VRelease, api.VDispute, api.VArbitrate, api.VRefund, api.VExpire}

// threeAccounts are those of the chapter's examples.
func threeAccounts() []api.Account {
	return []api.Account{{ID: 1, Owner: buyer, Balance: 100, Cap: 500}, {ID: 2, Owner: seller, Cap: 500}, {ID: 3, Owner: arbiter, Cap: 50}}
}

// isFault wants a fault of this layer with just that number and place.
func isFault(t *testing.T, what string, err error, why api.Errno, at int) {
	t.Helper()
	f, ok := err.(*api.Fault)
	if !ok || f == nil {
		t.Errorf("%s: %v is no fault, want %d at %d", what, err, why, at)
		return
	}
	if f.Layer != "deal" || f.At != at || f.Err != error(why) || !errors.Is(err, why) {
		t.Errorf("%s: refused with %v, want %d at %d", what, err, why, at)
	}
}

// isLower wants a fault of this layer at that place, and behind it one of a lower layer with just that number and place.
func isLower(t *testing.T, what string, err error, at int, lower string, why api.Errno, lowerAt int) {
	t.Helper()
	f, ok := err.(*api.Fault)
	if !ok || f == nil || f.Layer != "deal" || f.At != at {
		t.Errorf("%s: %v, want a fault of deal at %d", what, err, at)
		return
	}
	g, ok := f.Err.(*api.Fault)
	if !ok || g == nil || g.Layer != lower || g.At != lowerAt || g.Err != error(why) || !errors.Is(err, why) {
		t.Errorf("%s: behind it %v, want %d of %s at %d", what, f.Err, why, lower, lowerAt)
	}
}

// begun gives a house with these accounts.
func begun(t testing.TB, accounts ...api.Account) *deal.House {
	t.Helper()
	h, err := deal.New(accounts)
	if h == nil || err != nil {
		t.Fatalf("New(%v): %v", accounts, err)
	}
	return h
}

// house gives one with the three accounts.
func house(t testing.TB) *deal.House {
	t.Helper()
	return begun(t, threeAccounts()...)
}

// restored gives the house of an image that is in order.
func restored(t testing.TB, img api.HouseImage) *deal.House {
	t.Helper()
	h, err := deal.Restore(img)
	if h == nil || err != nil {
		t.Fatalf("Restore(%v): %v", img, err)
	}
	return h
}

// numbers lays numbers down as Data has them; no numbers are nil.
func numbers(list ...uint64) []byte {
	var b []byte
	for _, n := range list {
		b = binary.BigEndian.AppendUint64(b, n)
	}
	return b
}

// isResult wants just that code and just those numbers; Data without numbers must be nil.
func isResult(t *testing.T, what string, got api.Result, code api.Errno, told ...uint64) {
	t.Helper()
	if got.Code != code || !reflect.DeepEqual(got.Data, numbers(told...)) {
		t.Errorf("%s: %d %v, want %d %v", what, got.Code, got.Data, code, told)
	}
}

// does has a command done and looks at what came of it: a refusal must leave the house as it was, and the money must be right behind everything.
func does(t *testing.T, h *deal.House, who uint64, c api.Cmd, now uint64, code api.Errno, told ...uint64) {
	t.Helper()
	was := h.Image()
	got := h.Do(who, c, now)
	if got.Code != code || !reflect.DeepEqual(got.Data, numbers(told...)) {
		t.Errorf("Do(%d, %v, %d): %d %v, want %d %v", who, c, now, got.Code, got.Data, code, told)
	}
	is := h.Image()
	if got.Code != api.OK && !reflect.DeepEqual(was, is) {
		t.Errorf("Do(%d, %v, %d): refused with %d, and the house is\n%v, was\n%v", who, c, now, got.Code, is, was)
	}
	soundMoney(t, was, is)
}

// soundMoney looks at P5.13 in an image: the total is the one that it was ahead, and every deal's money is where its phase says.
func soundMoney(t *testing.T, was, is api.HouseImage) {
	t.Helper()
	all := new(big.Int)
	for _, a := range is.Book.Accounts {
		all.Add(all, new(big.Int).SetUint64(a.Balance))
	}
	held := map[uint64]uint64{}
	for _, h := range is.Book.Holds {
		all.Add(all, new(big.Int).SetUint64(h.Amount))
		held[h.ID] = h.Amount
	}
	if was.Book.Total != is.Book.Total || all.Cmp(new(big.Int).SetUint64(was.Book.Total)) != 0 {
		t.Errorf("the money: %v in all, told %d, was %d", all, is.Book.Total, was.Book.Total)
	}
	for _, d := range is.Deals {
		paid := new(big.Int)
		for _, n := range d.Paid {
			paid.Add(paid, new(big.Int).SetUint64(n))
		}
		whole := new(big.Int).Add(paid, new(big.Int).SetUint64(held[d.ID]))
		full := whole.Cmp(new(big.Int).SetUint64(d.Amount)) == 0
		none := whole.Sign() == 0
		switch {
		case held[d.ID] != 0 && d.Phase != api.PhaseFunded && d.Phase != api.PhaseDisputed:
			t.Errorf("the deal %v has %d held", d, held[d.ID])
		case (d.Phase == api.PhaseOpen || d.Phase == api.PhaseCalledOff) && !none:
			t.Errorf("the deal %v was paid, and has %d held", d, held[d.ID])
		case d.Phase == api.PhaseExpired && !none && !full:
			t.Errorf("the deal %v was paid a part", d)
		case !full && d.Phase != api.PhaseOpen && d.Phase != api.PhaseCalledOff && d.Phase != api.PhaseExpired:
			t.Errorf("the deal %v has %d held: that is not its amount", d, held[d.ID])
		}
		delete(held, d.ID)
	}
	if len(held) != 0 {
		t.Errorf("holds of no deal: %v", held)
	}
}

// The commands.

func enrol(acct, most uint64) api.Cmd { return api.Cmd{Verb: api.VEnrol, Acct: acct, Amount: most} }

func shut(acct uint64) api.Cmd { return api.Cmd{Verb: api.VClose, Acct: acct} }

func transfer(from, to, amount uint64) api.Cmd {
	return api.Cmd{Verb: api.VTransfer, Acct: from, To: to, Amount: amount}
}

func balance(acct uint64) api.Cmd { return api.Cmd{Verb: api.VBalance, Acct: acct} }

// opening gives the command for a deal of the accounts 1, 2 and 3 about 60, due at 20.
func opening(id uint64, terms string) api.Cmd {
	return api.Cmd{Verb: api.VOpen, Deal: id, Acct: 1, To: 2, Arbiter: 3, Amount: 60, Due: 20, Terms: terms}
}

func on(verb api.Verb, id, asked uint64) api.Cmd {
	return api.Cmd{Verb: verb, Deal: id, Amount: asked}
}

func callingOff(id uint64) api.Cmd { return api.Cmd{Verb: api.VCallOff, Deal: id} }

func looking(id uint64) api.Cmd { return api.Cmd{Verb: api.VLook, Deal: id} }

// opened gives a house with the deal 7, opened at 10.
func opened(t *testing.T, terms string) *deal.House {
	t.Helper()
	h := house(t)
	does(t, h, buyer, opening(7, terms), 10, api.OK)
	return h
}

// funded gives one in which it is funded; its terms pay nothing for that.
func funded(t *testing.T, terms string) *deal.House {
	t.Helper()
	h := opened(t, terms)
	does(t, h, buyer, on(api.VFund, 7, 0), 10, api.OK, 0, 0, 0)
	return h
}

// disputed gives one in which there is a quarrel about it, and 60 is held.
func disputed(t *testing.T, terms string) *deal.House {
	t.Helper()
	h := funded(t, terms)
	does(t, h, buyer, on(api.VDispute, 7, 0), 10, api.OK, 0, 0, 0)
	return h
}

// deal7 gives the deal 7 as it is.
func deal7(t *testing.T, h *deal.House) api.Deal {
	t.Helper()
	for _, d := range h.Image().Deals {
		if d.ID == 7 {
			return d
		}
	}
	t.Fatal("there is no deal 7")
	return api.Deal{}
}

// balances wants just these, in the order of the accounts.
func balances(t *testing.T, h *deal.House, want ...uint64) {
	t.Helper()
	var got []uint64
	for _, a := range h.Image().Book.Accounts {
		got = append(got, a.Balance)
	}
	if !slices.Equal(got, want) {
		t.Errorf("the balances are %v, want %v", got, want)
	}
}

// holds wants just these.
func holds(t *testing.T, h *deal.House, want ...api.Hold) {
	t.Helper()
	if got := h.Image().Book.Holds; !slices.Equal(got, want) {
		t.Errorf("the holds are %v, want %v", got, want)
	}
}

// lines wants the journal to end with these; their numbers are not looked at.
func lines(t *testing.T, h *deal.House, want ...api.Entry) {
	t.Helper()
	got := h.Image().Book.Journal
	if len(got) < len(want) {
		t.Errorf("the journal has %d lines, want %v at its end", len(got), want)
		return
	}
	for i, e := range got[len(got)-len(want):] {
		e.Seq = 0
		if e != want[i] {
			t.Errorf("the journal's end is %v, want %v", got[len(got)-len(want):], want)
			return
		}
	}
}

// twin gives an image of the same things that shares no memory with the first.
func twin(img api.HouseImage) api.HouseImage {
	img.Book.Accounts = slices.Clone(img.Book.Accounts)
	img.Book.Holds = slices.Clone(img.Book.Holds)
	img.Book.Journal = slices.Clone(img.Book.Journal)
	img.Deals = slices.Clone(img.Deals)
	return img
}

// atLine gives an image whose next line has that number, all else being as it was.
func atLine(img api.HouseImage, next uint64) api.HouseImage {
	img = twin(img)
	img.Book.Next = next
	img.Book.Journal = nil
	for seq := next - min(next-1, 64); seq < next; seq++ {
		img.Book.Journal = append(img.Book.Journal, api.Entry{Seq: seq, Kind: api.EntryMove, From: 8, To: 9, Amount: 1})
	}
	return img
}

// dice gives numbers that look like any, the same ones in every run.
type dice struct{ state uint64 }

func (d *dice) below(n int) int {
	d.state = d.state*6364136223846793005 + 1442695040888963407
	return int((d.state ^ d.state>>29) >> 3 % uint64(n))
}

// one gives one of the things.
func one[T any](d *dice, things ...T) T { return things[d.below(len(things))] }

// same tells whether two byte strings are the same, nil being none.
func same(a, b []byte) bool { return bytes.Equal(a, b) && (a == nil) == (b == nil) }
