package deal_test

import (
	"reflect"
	"slices"
	"strings"
	"testing"

	"quorum/api"
	"quorum/deal"
)

// everyPhase gives the image of a house with a deal in each phase, numbered by it; some were paid ahead, one expired without money.
func everyPhase(t *testing.T) api.HouseImage {
	t.Helper()
	h := begun(t, api.Account{ID: 1, Owner: buyer, Balance: 1000, Cap: most}, api.Account{ID: 2, Owner: seller, Cap: 5000}, api.Account{ID: 3, Owner: arbiter, Cap: 5000})
	for id := uint64(1); id <= 9; id++ {
		does(t, h, buyer, opening(id, "on fund { pay 5 to arbiter; }"), 10, api.OK)
		if id >= 2 && id <= 7 {
			does(t, h, buyer, on(api.VFund, id, 0), 10, api.OK, 0, 0, 5)
		}
	}
	for _, id := range []uint64{3, 5} {
		does(t, h, seller, on(api.VDispute, id, 0), 11, api.OK, 0, 0, 0)
	}
	does(t, h, arbiter, on(api.VArbitrate, 5, 30), 12, api.OK, 25, 30, 0)
	does(t, h, buyer, on(api.VRelease, 4, 0), 12, api.OK, 0, 55, 0)
	does(t, h, seller, on(api.VRefund, 6, 0), 12, api.OK, 55, 0, 0)
	does(t, h, seller, on(api.VExpire, 7, 0), 20, api.OK, 55, 0, 0)
	does(t, h, seller, callingOff(8), 20, api.OK)
	does(t, h, seller, on(api.VExpire, 9, 0), 20, api.OK, 0, 0, 0)
	return h.Image()
}

// isRefused wants an image to be refused by this layer.
func isRefused(t *testing.T, what string, img api.HouseImage, why api.Errno, at int) {
	t.Helper()
	h, err := deal.Restore(img)
	isFault(t, what, err, why, at)
	if h != nil {
		t.Errorf("%s: a house beside a fault", what)
	}
}

func TestP5_3ImageAndRestore(t *testing.T) {
	for _, img := range []api.HouseImage{everyPhase(t), house(t).Image(), full(t).Image(), withTwo(t).Image(), begun(t).Image(), atLine(everyPhase(t), last), atLine(everyPhase(t), 1)} {
		h := restored(t, img)
		if got := h.Image(); !reflect.DeepEqual(got, img) {
			t.Errorf("the image is\n%v, want\n%v", got, img)
		}
	}
	img := everyPhase(t)
	if len(img.Deals) != 9 || img.Ends != 6 || !slices.IsSortedFunc(img.Deals, func(a, b api.Deal) int { return int(a.ID) - int(b.ID) }) {
		t.Errorf("the image is %v", img)
	}
	for i, d := range img.Deals[:8] {
		if d.Phase != api.Phase(i+1) {
			t.Errorf("deal %d is in phase %d", d.ID, d.Phase)
		}
	}
	was := twin(img)
	h := restored(t, img)
	if !reflect.DeepEqual(img, was) {
		t.Error("what was handed in has changed")
	}
	clear(img.Deals)
	clear(img.Book.Accounts)
	clear(img.Book.Holds)
	clear(img.Book.Journal)
	if got := h.Image(); !reflect.DeepEqual(got, was) {
		t.Errorf("the house has become %v", got)
	}
}

// A house that was restored goes on like the one whose image it was.
func TestP5_3GoesOn(t *testing.T) {
	h := restored(t, everyPhase(t))
	does(t, h, buyer, on(api.VFund, 1, 0), 19, api.OK, 0, 0, 5)
	does(t, h, arbiter, on(api.VArbitrate, 3, 55), 19, api.OK, 0, 55, 0)
	does(t, h, seller, on(api.VRefund, 2, 0), 19, api.OK, 55, 0, 0)
	img := h.Image()
	if img.Ends != 8 || img.Deals[2].End != 7 || img.Deals[1].End != 8 {
		t.Errorf("the ends are %d, %d, %d", img.Ends, img.Deals[2].End, img.Deals[1].End)
	}
}

// The edges that are taken.
func TestP5_3Edges(t *testing.T) {
	base := inPhase(api.PhaseExpired, "")
	for _, c := range []func(img *api.HouseImage, d *api.Deal){
		func(img *api.HouseImage, d *api.Deal) {},
		func(img *api.HouseImage, d *api.Deal) { d.Paid = [3]uint64{20, 30, 10} },
		func(img *api.HouseImage, d *api.Deal) { img.Ends = last },
		func(img *api.HouseImage, d *api.Deal) { img.Ends, d.End = last, last },
		func(img *api.HouseImage, d *api.Deal) { d.ID, d.Opened, d.Due, d.Amount = most, most-1, most, most },
		func(img *api.HouseImage, d *api.Deal) {
			d.Amount, d.Paid, d.Phase = most, [3]uint64{most - 2, 1, 1}, api.PhaseReleased
		},
		func(img *api.HouseImage, d *api.Deal) { d.Buyer, d.Seller, d.Arbiter = 0, 9, 9 }, // an ended deal's accounts may be gone
		func(img *api.HouseImage, d *api.Deal) { d.Buyer, d.Seller = 1, 1 },
		func(img *api.HouseImage, d *api.Deal) { d.Terms = "on fund { }" + strings.Repeat(" ", 501) },
		func(img *api.HouseImage, d *api.Deal) { d.Terms = "on fund { } # é\x00" },
	} {
		img := twin(base)
		c(&img, &img.Deals[0])
		h := restored(t, img)
		if got := h.Image(); !reflect.DeepEqual(got, img) {
			t.Errorf("the image is\n%v, want\n%v", got, img)
		}
	}
	paidOut := inPhase(api.PhaseDisputed, "") // all was paid ahead: nothing is held
	paidOut.Book.Holds, paidOut.Book.Accounts[0].Balance, paidOut.Deals[0].Paid = nil, 100, [3]uint64{10, 20, 30}
	restored(t, paidOut)
}

func TestP5_3TheLedgerFirst(t *testing.T) {
	for _, c := range []struct {
		spoil func(img *api.HouseImage)
		why   api.Errno
		at    int
	}{
		{func(img *api.HouseImage) { img.Book.Total++ }, api.ErrLedgerTotal, 0},
		{func(img *api.HouseImage) { img.Book.Accounts[2].ID = 2 }, api.ErrImage, 2},
		{func(img *api.HouseImage) { img.Book.Holds[1].From = 9 }, api.ErrLedgerUnknown, 1},
		{func(img *api.HouseImage) { img.Book.Journal[3].Kind = 6 }, api.ErrImage, 3},
	} {
		img := everyPhase(t)
		c.spoil(&img)
		img.Ends = most
		img.Deals = append(img.Deals, make([]api.Deal, 30)...)
		h, err := deal.Restore(img)
		isLower(t, "Restore", err, 0, "ledger", c.why, c.at)
		if h != nil {
			t.Error("a house beside a fault")
		}
	}
	h, err := deal.Restore(api.HouseImage{})
	isLower(t, "Restore of the zero image", err, 0, "ledger", api.ErrImage, 0)
	if h != nil {
		t.Error("a house beside a fault")
	}
}

func TestP5_3Sizes(t *testing.T) {
	img := full(t).Image()
	more := twin(img)
	more.Deals = append(more.Deals, more.Deals[31])
	more.Deals[32].ID = 33
	isRefused(t, "33 deals", more, api.ErrDealFull, 0)
	more.Deals[0].ID, more.Ends = 0, last+1
	isRefused(t, "33 deals", more, api.ErrDealFull, 0)
	img.Deals[0].ID, img.Ends = 0, last+1
	isRefused(t, "too many ends", img, api.ErrImage, 0)
	img.Ends = most
	isRefused(t, "too many ends", img, api.ErrImage, 0)
	img.Ends = last
	isRefused(t, "a deal without a number", img, api.ErrDealZero, 0)
}

// dealFault is a way to spoil the deal at a place of an image.
type dealFault struct {
	what  string
	why   api.Errno
	spoil func(img *api.HouseImage, d *api.Deal)
}

// aliveFaults are the faults of a deal that is alive, funded and at place 1, in their order.
func aliveFaults() []dealFault {
	return []dealFault{
		{"no number", api.ErrDealZero, func(img *api.HouseImage, d *api.Deal) { d.ID = 0 }},
		{"a number not above the last", api.ErrImage, func(img *api.HouseImage, d *api.Deal) { d.ID = img.Deals[0].ID }},
		{"no phase", api.ErrImage, func(img *api.HouseImage, d *api.Deal) { d.Phase = 0 }},
		{"no amount", api.ErrDealAmount, func(img *api.HouseImage, d *api.Deal) { d.Amount = 0 }},
		{"due too early", api.ErrDealDue, func(img *api.HouseImage, d *api.Deal) { d.Due = d.Opened }},
		{"an end though alive", api.ErrImage, func(img *api.HouseImage, d *api.Deal) { d.End = 1 }},
		{"no terms", api.ErrDealTerms, func(img *api.HouseImage, d *api.Deal) { d.Terms = "on" }},
		{"paid too much", api.ErrDealAmount, func(img *api.HouseImage, d *api.Deal) { d.Paid = [3]uint64{most, 60, 1} }},
		{"no party", api.ErrDealParty, func(img *api.HouseImage, d *api.Deal) { d.Arbiter = 9 }},
		{"another's hold", api.ErrImage, func(img *api.HouseImage, d *api.Deal) { img.Book.Holds[0].From = 2 }},
	}
}

// Each fault alone, and each two: the first is told.
func TestP5_3OrderInADeal(t *testing.T) {
	faults := aliveFaults()
	for i, first := range faults {
		for _, second := range faults[i:] {
			img := everyPhase(t)
			second.spoil(&img, &img.Deals[1])
			first.spoil(&img, &img.Deals[1])
			isRefused(t, first.what+" and "+second.what, img, first.why, 1)
			img.Deals[8].ID = 0 // a later deal comes later
			isRefused(t, first.what+" and "+second.what, img, first.why, 1)
		}
	}
}

// All the ways in which one thing may be wrong, at the deals of every phase.
func TestP5_3EveryFault(t *testing.T) {
	good := everyPhase(t)
	for _, c := range []struct {
		at    int
		why   api.Errno
		spoil func(img *api.HouseImage, d *api.Deal)
	}{
		{0, api.ErrDealZero, func(img *api.HouseImage, d *api.Deal) { d.ID = 0 }},
		{8, api.ErrDealZero, func(img *api.HouseImage, d *api.Deal) { d.ID = 0 }},
		{4, api.ErrImage, func(img *api.HouseImage, d *api.Deal) { d.ID = 4 }},
		{4, api.ErrImage, func(img *api.HouseImage, d *api.Deal) { d.ID = 3 }},
		{3, api.ErrImage, func(img *api.HouseImage, d *api.Deal) { d.Phase = -1 }},
		{3, api.ErrImage, func(img *api.HouseImage, d *api.Deal) { d.Phase = 9 }},
		{3, api.ErrImage, func(img *api.HouseImage, d *api.Deal) { d.Phase = 1 << 40 }},
		{7, api.ErrDealAmount, func(img *api.HouseImage, d *api.Deal) { d.Amount = 0 }},
		{7, api.ErrDealDue, func(img *api.HouseImage, d *api.Deal) { d.Due = 10 }},
		{7, api.ErrDealDue, func(img *api.HouseImage, d *api.Deal) { d.Due = 0 }},
		{7, api.ErrDealDue, func(img *api.HouseImage, d *api.Deal) { d.Opened = most; d.Due = most }},
		{0, api.ErrImage, func(img *api.HouseImage, d *api.Deal) { d.End = 6 }},
		{0, api.ErrImage, func(img *api.HouseImage, d *api.Deal) { d.End = 99 }},
		{2, api.ErrImage, func(img *api.HouseImage, d *api.Deal) { d.End = 7; img.Ends = 7 }},
		{3, api.ErrImage, func(img *api.HouseImage, d *api.Deal) { d.End = 0 }},
		{3, api.ErrImage, func(img *api.HouseImage, d *api.Deal) { d.End = 7 }},
		{3, api.ErrImage, func(img *api.HouseImage, d *api.Deal) { d.End = most }},
		{8, api.ErrImage, func(img *api.HouseImage, d *api.Deal) { d.End = img.Deals[3].End }},
		{8, api.ErrImage, func(img *api.HouseImage, d *api.Deal) { d.End = img.Deals[7].End }},
		{8, api.ErrImage, func(img *api.HouseImage, d *api.Deal) { img.Ends = d.End - 1 }},
		{8, api.ErrDealTerms, func(img *api.HouseImage, d *api.Deal) { d.Terms = " " }},
		{8, api.ErrDealTerms, func(img *api.HouseImage, d *api.Deal) { d.Terms = "on fund { set x = 1; }" }},
		{8, api.ErrDealTerms, func(img *api.HouseImage, d *api.Deal) { d.Terms = "on fund { } # \xff" }},
		{8, api.ErrDealTerms, func(img *api.HouseImage, d *api.Deal) { d.Terms = "\xff" }},
		{8, api.ErrDealTerms, func(img *api.HouseImage, d *api.Deal) { d.Terms = "on fund { }" + strings.Repeat(" ", 502) }},
		{8, api.ErrDealAmount, func(img *api.HouseImage, d *api.Deal) { d.Paid[0] = 61 }},
		{8, api.ErrDealAmount, func(img *api.HouseImage, d *api.Deal) { d.Paid = [3]uint64{30, 30, 1} }},
		{8, api.ErrDealAmount, func(img *api.HouseImage, d *api.Deal) { d.Paid = [3]uint64{most, 1, 60} }},
		{8, api.ErrDealAmount, func(img *api.HouseImage, d *api.Deal) { d.Paid = [3]uint64{60, 1, most} }},
		{0, api.ErrDealParty, func(img *api.HouseImage, d *api.Deal) { d.Buyer = 0 }},
		{0, api.ErrDealParty, func(img *api.HouseImage, d *api.Deal) { d.Seller = 9 }},
		{0, api.ErrDealParty, func(img *api.HouseImage, d *api.Deal) { d.Arbiter = 4 }},
		{0, api.ErrDealParty, func(img *api.HouseImage, d *api.Deal) { d.Seller = 1 }},
		{1, api.ErrDealParty, func(img *api.HouseImage, d *api.Deal) { d.Arbiter = 1 }},
		{2, api.ErrDealParty, func(img *api.HouseImage, d *api.Deal) { d.Arbiter = 2 }},
		{0, api.ErrDealParty, func(img *api.HouseImage, d *api.Deal) { img.Book.Accounts[1].Owner = buyer }},
		{0, api.ErrDealParty, func(img *api.HouseImage, d *api.Deal) { img.Book.Accounts[2].Owner = buyer }},
		{0, api.ErrDealParty, func(img *api.HouseImage, d *api.Deal) { img.Book.Accounts[2].Owner = seller }},
		{1, api.ErrImage, func(img *api.HouseImage, d *api.Deal) { img.Book.Holds[0].From = 3 }},
		{1, api.ErrImage, func(img *api.HouseImage, d *api.Deal) { d.Buyer, d.Seller = 2, 1 }},
		{0, api.ErrImage, func(img *api.HouseImage, d *api.Deal) { d.Paid[2] = 60 }},
		{0, api.ErrImage, func(img *api.HouseImage, d *api.Deal) { d.Paid[2] = 1 }},
		{1, api.ErrImage, func(img *api.HouseImage, d *api.Deal) { d.Paid[2] = 4 }},
		{1, api.ErrImage, func(img *api.HouseImage, d *api.Deal) { d.Paid[1] = 1 }},
		{1, api.ErrImage, func(img *api.HouseImage, d *api.Deal) { d.Amount = 61 }},
		{2, api.ErrImage, func(img *api.HouseImage, d *api.Deal) { d.Amount = 59 }},
		{2, api.ErrImage, func(img *api.HouseImage, d *api.Deal) { d.Paid = [3]uint64{60, 0, 0} }},
		{3, api.ErrImage, func(img *api.HouseImage, d *api.Deal) { d.Paid[1]-- }},
		{4, api.ErrImage, func(img *api.HouseImage, d *api.Deal) { d.Amount++ }},
		{5, api.ErrImage, func(img *api.HouseImage, d *api.Deal) { d.Paid = [3]uint64{} }},
		{6, api.ErrImage, func(img *api.HouseImage, d *api.Deal) { d.Paid = [3]uint64{59, 0, 0} }},
		{7, api.ErrImage, func(img *api.HouseImage, d *api.Deal) { d.Paid[0] = 60 }},
		{7, api.ErrImage, func(img *api.HouseImage, d *api.Deal) { d.Paid[0] = 1 }},
	} {
		img := twin(good)
		c.spoil(&img, &img.Deals[c.at])
		what := "row"
		if len(img.Deals) > c.at {
			what = "deal " + string(rune('0'+img.Deals[c.at].ID%10))
		}
		isRefused(t, what, img, c.why, c.at)
	}
}

// A hold for a deal in whose phase nothing is held.
func TestP5_3HoldsOfTheWrongPhase(t *testing.T) {
	for phase := api.PhaseOpen; phase <= api.PhaseCalledOff; phase++ {
		for _, from := range []uint64{1, 2} {
			img := inPhase(phase, "")
			if phase == api.PhaseExpired {
				img.Deals[0].Paid[0] = 60
			}
			img.Book.Total += 7
			if len(img.Book.Holds) > 0 {
				img.Book.Holds[0].Amount += 7
			} else {
				img.Book.Holds = []api.Hold{{ID: 7, From: from, Amount: 7}}
			}
			isRefused(t, "a hold", img, api.ErrImage, 0)
		}
	}
	// The whole amount is held, and nothing was paid: in Funded and Disputed alone.
	for phase := api.PhaseOpen; phase <= api.PhaseCalledOff; phase++ {
		img := inPhase(api.PhaseFunded, "")
		img.Deals[0].Phase = phase
		if phase > api.PhaseDisputed {
			img.Ends, img.Deals[0].End = 1, 1
		}
		if phase == api.PhaseFunded || phase == api.PhaseDisputed {
			restored(t, img)
		} else {
			isRefused(t, "a hold", img, api.ErrImage, 0)
		}
	}
}

func TestP5_3HoldsOfNoDeal(t *testing.T) {
	img := everyPhase(t)
	img.Deals = slices.Delete(img.Deals, 1, 2)
	isRefused(t, "a hold without a deal", img, api.ErrImage, 8)
	img.Deals = nil
	isRefused(t, "holds without deals", img, api.ErrImage, 0)
	img = everyPhase(t)
	img.Book.Holds = append(img.Book.Holds, api.Hold{ID: 99, From: 1, Amount: 1})
	img.Book.Accounts[0].Balance--
	isRefused(t, "a hold more", img, api.ErrImage, 9)
	img.Deals[8].ID = 0
	isRefused(t, "the deals go ahead of the holds", img, api.ErrDealZero, 8)
}
