package deal_test

import (
	"reflect"
	"strings"
	"testing"

	"quorum/api"
	"quorum/deal"
)

func TestP5_7Open(t *testing.T) {
	h := house(t)
	c := api.Cmd{Verb: api.VOpen, Deal: most, Acct: 1, To: 3, Arbiter: 2, Amount: most, Due: most, Terms: "on fund { done; }"}
	does(t, h, buyer, c, most-1, api.OK)
	does(t, h, buyer, opening(1, ""), 19, api.OK)
	want := []api.Deal{
		{ID: 1, Buyer: 1, Seller: 2, Arbiter: 3, Amount: 60, Opened: 19, Due: 20, Phase: api.PhaseOpen},
		{ID: most, Buyer: 1, Seller: 3, Arbiter: 2, Amount: most, Opened: most - 1, Due: most, Phase: api.PhaseOpen, Terms: "on fund { done; }"},
	}
	img := h.Image()
	if !reflect.DeepEqual(img.Deals, want) || img.Ends != 0 || img.Book.Next != 1 {
		t.Errorf("the image is %v", img)
	}
}

// openFaults are the reasons for which a deal is not opened, in their order: how a good command is spoilt, and what comes of it.
func openFaults() []struct {
	spoil func(c *api.Cmd, who, now *uint64)
	code  api.Errno
	data  []uint64
} {
	return []struct {
		spoil func(c *api.Cmd, who, now *uint64)
		code  api.Errno
		data  []uint64
	}{
		{func(c *api.Cmd, who, now *uint64) { c.Deal = 0 }, api.ErrDealZero, nil},
		{func(c *api.Cmd, who, now *uint64) { c.Deal = 5 }, api.ErrDealTaken, nil},
		{func(c *api.Cmd, who, now *uint64) { c.Acct = 9 }, api.ErrLedgerUnknown, nil},
		{func(c *api.Cmd, who, now *uint64) { c.To = 0 }, api.ErrLedgerZero, nil},
		{func(c *api.Cmd, who, now *uint64) { c.Arbiter = 9 }, api.ErrLedgerUnknown, nil},
		{func(c *api.Cmd, who, now *uint64) { c.Arbiter = 4 }, api.ErrDealParty, nil}, // the seller's other account
		{func(c *api.Cmd, who, now *uint64) { *who = stranger }, api.ErrDealRole, nil},
		{func(c *api.Cmd, who, now *uint64) { c.Amount = 0 }, api.ErrDealAmount, nil},
		{func(c *api.Cmd, who, now *uint64) { *now = c.Due }, api.ErrDealDue, nil},
		{func(c *api.Cmd, who, now *uint64) { c.Terms = "on fund { ! }" }, api.ErrDealTerms, []uint64{61, 10}},
	}
}

// withTwo gives a house with a second account of the seller, and the deals 5 and 6 of which 5 has ended.
func withTwo(t *testing.T) *deal.House {
	t.Helper()
	h := house(t)
	does(t, h, seller, enrol(4, 9), 0, api.OK)
	does(t, h, buyer, opening(5, ""), 0, api.OK)
	does(t, h, buyer, opening(6, ""), 0, api.OK)
	does(t, h, buyer, callingOff(5), 0, api.OK)
	return h
}

// Every reason alone, and every two: the first is told.
func TestP5_7Order(t *testing.T) {
	h := withTwo(t)
	faults := openFaults()
	for i, first := range faults {
		for _, second := range faults[i:] {
			c, who, now := opening(7, "on fund { }"), uint64(buyer), uint64(10)
			second.spoil(&c, &who, &now)
			first.spoil(&c, &who, &now)
			does(t, h, who, c, now, first.code, first.data...)
		}
	}
	does(t, h, buyer, opening(7, "on fund { }"), 10, api.OK)
	does(t, h, buyer, opening(6, ""), 10, api.ErrDealTaken)
}

func TestP5_7Accounts(t *testing.T) {
	h := withTwo(t)
	does(t, h, buyer, enrol(11, 9), 0, api.OK)
	does(t, h, arbiter, enrol(13, 9), 0, api.OK)
	for _, c := range []struct {
		accts [3]uint64
		code  api.Errno
	}{
		{[3]uint64{0, 9, 9}, api.ErrLedgerZero},
		{[3]uint64{9, 0, 0}, api.ErrLedgerUnknown},
		{[3]uint64{1, 0, 9}, api.ErrLedgerZero},
		{[3]uint64{1, 9, 0}, api.ErrLedgerUnknown},
		{[3]uint64{1, 1, 0}, api.ErrLedgerZero},
		{[3]uint64{1, 1, 9}, api.ErrLedgerUnknown},
		{[3]uint64{1, 1, 3}, api.ErrDealParty},
		{[3]uint64{1, 2, 1}, api.ErrDealParty},
		{[3]uint64{1, 2, 2}, api.ErrDealParty},
		{[3]uint64{1, 1, 1}, api.ErrDealParty},
		{[3]uint64{1, 11, 3}, api.ErrDealParty},
		{[3]uint64{1, 2, 11}, api.ErrDealParty},
		{[3]uint64{1, 2, 4}, api.ErrDealParty},
		{[3]uint64{2, 4, 1}, api.ErrDealParty},
		{[3]uint64{2, 1, 3}, api.ErrDealRole},
		{[3]uint64{11, 4, 13}, api.OK},
	} {
		x := opening(7, "")
		x.Acct, x.To, x.Arbiter = c.accts[0], c.accts[1], c.accts[2]
		does(t, h, buyer, x, 10, c.code)
	}
}

func TestP5_7Due(t *testing.T) {
	h := house(t)
	for i, c := range []struct {
		due, now uint64
		code     api.Errno
	}{{0, 0, api.ErrDealDue}, {1, 0, api.OK}, {20, 21, api.ErrDealDue}, {20, 20, api.ErrDealDue}, {20, 19, api.OK}, {most, most, api.ErrDealDue}, {most, most - 1, api.OK}, {most, 0, api.OK}} {
		x := opening(uint64(i)+1, "")
		x.Due = c.due
		does(t, h, buyer, x, c.now, c.code)
	}
}

func TestP5_7Terms(t *testing.T) {
	long := "on fund { }" + strings.Repeat(" ", 501)
	deep := "on fund { let x = " + strings.Repeat("(not ", 21) + "true" + strings.Repeat(")", 21) + "; }"
	for _, c := range []struct {
		terms string
		why   api.Errno
		at    uint64
	}{
		{" ", api.ErrTermsSyntax, 1},
		{"# nothing", api.ErrTermsSyntax, 9},
		{"on fund { } é", api.ErrTermsToken, 12},
		{"on fund { pay 1 to 01; }", api.ErrTermsToken, 19},
		{"on fund { on", api.ErrTermsSyntax, 10},
		{"on fund { fail 1000; }", api.ErrTermsSyntax, 15},
		{"on fund { " + strings.Repeat("done;", 90) + strings.Repeat("{", 50), api.ErrTermsSyntax, 460},
		{"on fund { let x=" + strings.Repeat("1+", 126) + "1; }", api.ErrTermsMany, 0},
		{deep, api.ErrTermsDeep, 0},
		{"on fund { } on fund { }", api.ErrTermsEvent, 3},
		{"on fund { set x = 1; }", api.ErrTermsName, 3},
		{"on fund { pay true to 1; }", api.ErrTermsKind, 4},
		{"on fund { } on release { pay 1 to nobody; }", api.ErrTermsName, 7},
	} {
		if len(c.terms) > 512 {
			t.Fatalf("%d bytes", len(c.terms))
		}
		does(t, house(t), buyer, opening(7, c.terms), 10, api.ErrDealTerms, uint64(c.why), c.at)
	}
	for _, good := range []string{"", long, "on fund{}", "on fund { # é\n }", "on expire { fail 999; } on fund { pay held to seller; }"} {
		h := house(t)
		does(t, h, buyer, opening(7, good), 10, api.OK)
		if d := deal7(t, h); d.Terms != good {
			t.Errorf("the terms %q have become %q", good, d.Terms)
		}
	}
	does(t, house(t), buyer, opening(7, long+" "), 10, api.ErrDealCommand)
}

// full gives a house that knows 32 deals, 1 to 32, all alive.
func full(t *testing.T) *deal.House {
	t.Helper()
	h := house(t)
	for i := uint64(1); i <= 32; i++ {
		does(t, h, buyer, opening(i, ""), 10, api.OK)
	}
	return h
}

func TestP5_7Room(t *testing.T) {
	h := full(t)
	does(t, h, buyer, opening(33, ""), 10, api.ErrDealFull)
	does(t, h, buyer, opening(33, "x"), 10, api.ErrDealTerms, 62, 0) // the room is looked at last
	does(t, h, buyer, opening(32, ""), 10, api.ErrDealTaken)
	ended := []uint64{20, 3, 32, 1}
	for _, id := range ended {
		does(t, h, buyer, callingOff(id), 10, api.OK)
	}
	does(t, h, buyer, opening(3, ""), 10, api.ErrDealTaken) // it has ended, but the house still knows it
	for i, id := range ended {
		does(t, h, stranger, looking(id), 10, api.ErrDealRole)
		does(t, h, buyer, opening(40+uint64(i), ""), 10, api.OK)
		does(t, h, buyer, looking(id), 10, api.ErrDealUnknown)
		if img := h.Image(); len(img.Deals) != 32 || img.Ends != 4 {
			t.Errorf("%d deals, %d ends", len(img.Deals), img.Ends)
		}
	}
	does(t, h, buyer, opening(3, ""), 10, api.ErrDealFull)
	does(t, h, buyer, callingOff(40), 10, api.OK)
	does(t, h, buyer, opening(3, ""), 10, api.OK) // a number that was forgotten may come again
	if img := h.Image(); img.Ends != 5 || len(img.Deals) != 32 {
		t.Errorf("%d deals, %d ends", len(img.Deals), img.Ends)
	}
}

// A deal that is refused forgets nothing; with room left nothing is forgotten either.
func TestP5_7NothingIsForgottenTooEarly(t *testing.T) {
	h := full(t)
	does(t, h, buyer, callingOff(9), 10, api.OK)
	for _, f := range openFaults() {
		c, who, now := opening(50, ""), uint64(buyer), uint64(10)
		f.spoil(&c, &who, &now)
		if c.Arbiter == 4 {
			continue
		}
		does(t, h, who, c, now, f.code, f.data...)
	}
	does(t, h, buyer, looking(9), 10, api.OK, 8, 60, 0, 10, 20, 0, 0, 0)
	h = house(t)
	for i := uint64(1); i <= 31; i++ {
		does(t, h, buyer, opening(i, ""), 10, api.OK)
		does(t, h, buyer, callingOff(i), 10, api.OK)
	}
	does(t, h, buyer, opening(32, ""), 10, api.OK)
	if img := h.Image(); len(img.Deals) != 32 {
		t.Errorf("%d deals", len(img.Deals))
	}
	does(t, h, buyer, opening(33, ""), 10, api.OK)
	does(t, h, buyer, looking(1), 10, api.ErrDealUnknown)
	does(t, h, buyer, looking(2), 10, api.OK, 8, 60, 0, 10, 20, 0, 0, 0)
}
