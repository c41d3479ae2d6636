package deal_test

import (
	"reflect"
	"sync"
	"testing"

	"quorum/api"
	"quorum/deal"
)

func TestP5_2New(t *testing.T) {
	want := api.HouseImage{Book: api.LedgerImage{Total: 100, Next: 1, Accounts: threeAccounts()}}
	if got := house(t).Image(); !reflect.DeepEqual(got, want) {
		t.Errorf("the image is\n%v, want\n%v", got, want)
	}
	a := threeAccounts()
	if got := begun(t, a[2], a[0], a[1]).Image(); !reflect.DeepEqual(got, want) {
		t.Errorf("in another order: the image is\n%v, want\n%v", got, want)
	}
	for _, none := range [][]api.Account{nil, {}} {
		if got := begun(t, none...).Image(); !reflect.DeepEqual(got, api.HouseImage{Book: api.LedgerImage{Next: 1}}) {
			t.Errorf("without accounts: the image is %v", got)
		}
	}
}

func TestP5_2Refusals(t *testing.T) {
	for _, c := range []struct {
		accounts []api.Account
		why      api.Errno
		at       int
	}{
		{make([]api.Account, 65), api.ErrLedgerFull, 0},
		{[]api.Account{{ID: 1}, {ID: 2}, {}}, api.ErrLedgerZero, 2},
		{[]api.Account{{ID: 1}, {ID: 1}}, api.ErrLedgerTaken, 1},
		{[]api.Account{{ID: 4, Balance: 5, Cap: 4}}, api.ErrLedgerCap, 0},
		{[]api.Account{{ID: 4, Balance: most, Cap: most}, {ID: 5, Balance: 1, Cap: 1}}, api.ErrLedgerTotal, 1},
	} {
		h, err := deal.New(c.accounts)
		isLower(t, "New", err, c.at, "ledger", c.why, c.at)
		if h != nil {
			t.Error("a house beside a fault")
		}
	}
}

func TestP5_2WhatIsHandedInIsNotKept(t *testing.T) {
	list := threeAccounts()
	h := begun(t, list...)
	other := begun(t, list...)
	clear(list)
	does(t, h, buyer, transfer(1, 2, 30), 0, api.OK)
	balances(t, h, 70, 30, 0)
	balances(t, other, 100, 0, 0)
}

// A house that no call made answers, and stays what it is.
func TestNoHouse(t *testing.T) {
	var none *deal.House
	for _, h := range []*deal.House{none, {}} {
		for range 2 {
			for _, c := range append(eachVerb(3), api.Cmd{}, api.Cmd{Verb: 99}) {
				isResult(t, "Do of no house", h.Do(buyer, c, 10), api.ErrZero)
			}
			for _, b := range [][]byte{nil, {}, {99}, {1, 9, 9}, {4}, secondPack(opening(7, ""))} {
				isResult(t, "Apply of no house", h.Apply(buyer, b, 10), api.ErrZero)
			}
			if img := h.Image(); !reflect.DeepEqual(img, api.HouseImage{}) {
				t.Errorf("the image of no house: %v", img)
			}
		}
	}
}

func TestP5_4Apply(t *testing.T) {
	h, other := house(t), house(t)
	for _, c := range []api.Cmd{enrol(4, 9), transfer(1, 4, 9), opening(7, "on fund { pay asked to arbiter; }"), on(api.VFund, 7, 9), looking(7), balance(1), looking(8), transfer(2, 4, 1), callingOff(7), shut(4)} {
		got := h.Apply(buyer, secondPack(c), 10)
		if want := other.Do(buyer, c, 10); got.Code != want.Code || !same(got.Data, want.Data) {
			t.Errorf("Apply of %v: %v, Do says %v", c, got, want)
		}
		if !reflect.DeepEqual(h.Image(), other.Image()) {
			t.Errorf("behind %v: Apply has left\n%v, Do\n%v", c, h.Image(), other.Image())
		}
	}
}

func TestP5_4WhatIsNoCommand(t *testing.T) {
	h := funded(t, "")
	was := h.Image()
	for _, b := range [][]byte{nil, {}, {0}, {14}, {63}, {3, 1, 2}, {3, 1, 2, 5, 0}, {3, 0x81, 0, 2, 5}, append(secondPack(opening(8, "")), 'x'), make([]byte, 701), append(secondPack(looking(7)), make([]byte, 1<<16)...)} {
		isResult(t, "Apply of no command", h.Apply(buyer, b, 10), api.ErrDealCommand)
	}
	if !reflect.DeepEqual(h.Image(), was) {
		t.Errorf("the house has changed: %v", h.Image())
	}
}

func TestP5_5WhatIsNoCommand(t *testing.T) {
	h := funded(t, "")
	for _, c := range []api.Cmd{
		{}, {Verb: 14}, {Verb: -1}, {Verb: 1 << 40},
		{Verb: api.VEnrol, Acct: 9, Amount: 1, Deal: 1}, {Verb: api.VTransfer, Acct: 1, To: 2, Amount: 5, Due: 1}, {Verb: api.VRelease, Deal: 7, Terms: "x"}, {Verb: api.VLook, Deal: 7, Amount: 1}, {Verb: api.VCallOff, Acct: 1},
		opening(8, "a\xff"), opening(0, "#\xff"), opening(7, string(make([]byte, 513))),
	} {
		does(t, h, buyer, c, 10, api.ErrDealCommand)
	}
}

// Lists that are handed out are new memory each time.
func TestAnswersAreNewMemory(t *testing.T) {
	h := funded(t, "")
	want := twin(h.Image())
	img := h.Image()
	clear(img.Deals[:cap(img.Deals)])
	clear(img.Book.Accounts[:cap(img.Book.Accounts)])
	clear(img.Book.Holds[:cap(img.Book.Holds)])
	clear(img.Book.Journal[:cap(img.Book.Journal)])
	if !reflect.DeepEqual(h.Image(), want) {
		t.Errorf("the house has become %v", h.Image())
	}
	for _, c := range []api.Cmd{looking(7), balance(1), on(api.VDispute, 7, 0)} {
		r := h.Do(buyer, c, 10)
		clear(r.Data[:cap(r.Data)])
	}
	does(t, h, buyer, looking(7), 10, api.OK, 3, 60, 60, 10, 20, 0, 0, 0)
	does(t, h, buyer, balance(1), 10, api.OK, 40, 500)

	bytes := secondPack(opening(8, "on release { pay 1 to buyer; }"))
	isResult(t, "Apply", h.Apply(buyer, bytes, 10), api.OK)
	clear(bytes)
	if d := h.Image().Deals[1]; d.Terms != "on release { pay 1 to buyer; }" {
		t.Errorf("the terms have become %q", d.Terms)
	}
}

// Houses have nothing in common: many at once do as one does alone.
func TestHousesAreApart(t *testing.T) {
	run := func() api.HouseImage {
		h, _ := deal.New(threeAccounts())
		for i := uint64(1); i <= 40; i++ {
			h.Do(buyer, opening(i, "on fund { let n = 0; while n < 9 { set n = n + 1; } pay n to arbiter; }"), 10)
			h.Do(buyer, on(api.VFund, i, 0), 10)
			h.Do(buyer, on(api.VRelease, i, 0), 10)
			h.Do(seller, transfer(2, 1, 51), 10)
			h.Do(arbiter, transfer(3, 1, 9), 10)
		}
		return h.Image()
	}
	want := run()
	if want.Ends != 40 {
		t.Fatalf("%d ends", want.Ends)
	}
	var wait sync.WaitGroup
	for range 8 {
		wait.Go(func() {
			if got := run(); !reflect.DeepEqual(got, want) {
				t.Errorf("another house: %v", got)
			}
		})
	}
	wait.Wait()
}
