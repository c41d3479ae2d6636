package deal_test

import (
	"slices"
	"strconv"
	"strings"
	"testing"

	"quorum/api"
	"quorum/deal"
)

// theTable is that of P5.8: who may do it without a rule, by their roles, and in which phases.
var theTable = map[api.Verb]struct {
	word   string
	who    []uint64
	phases []api.Phase
	then   api.Phase
	ends   bool
}{
	api.VFund:      {"fund", []uint64{1}, []api.Phase{1}, 2, false},
	api.VRelease:   {"release", []uint64{1}, []api.Phase{2, 3}, 4, true},
	api.VDispute:   {"dispute", []uint64{1, 2}, []api.Phase{2}, 3, false},
	api.VArbitrate: {"arbitrate", []uint64{3}, []api.Phase{3}, 5, true},
	api.VRefund:    {"refund", []uint64{2}, []api.Phase{2, 3}, 6, true},
	api.VExpire:    {"expire", []uint64{1, 2, 3}, []api.Phase{1, 2, 3}, 7, true},
}

// inPhase gives the image of a house whose deal 7 is in that phase, with those terms; 60 is held in Funded and Disputed.
func inPhase(phase api.Phase, terms string) api.HouseImage {
	d := api.Deal{ID: 7, Buyer: 1, Seller: 2, Arbiter: 3, Amount: 60, Opened: 10, Due: 20, Phase: phase, Terms: terms}
	img := api.HouseImage{Book: api.LedgerImage{Total: 100, Next: 1, Accounts: threeAccounts()}}
	if phase == api.PhaseFunded || phase == api.PhaseDisputed {
		img.Book.Accounts[0].Balance = 40
		img.Book.Holds = []api.Hold{{ID: 7, From: 1, Amount: 60}}
	}
	if phase >= api.PhaseReleased {
		img.Ends, d.End = 1, 1
		if phase <= api.PhaseRefunded {
			d.Paid[1] = 60
		}
	}
	img.Deals = []api.Deal{d}
	return img
}

// Every verb in every phase by everybody, with a rule and without, ahead of the due time and at it, with room for an end and without: the first reason is told.
func TestP5_8Order(t *testing.T) {
	for _, verb := range six {
		row := theTable[verb]
		for phase := api.PhaseOpen; phase <= api.PhaseCalledOff; phase++ {
			for role := range uint64(4) { // 0 is a stranger
				for _, ruled := range []bool{false, true} {
					for _, now := range []uint64{0, 19, 20, most} {
						for _, ends := range []uint64{1, last - 1, last} {
							terms := "on " + row.word + " { }"
							if !ruled {
								terms = otherRules(row.word)
							}
							img := inPhase(phase, terms)
							img.Ends = ends
							want := api.OK
							switch {
							case role == 0, !ruled && !slices.Contains(row.who, role):
								want = api.ErrDealRole
							case !slices.Contains(row.phases, phase):
								want = api.ErrDealPhase
							case verb == api.VExpire && now < 20:
								want = api.ErrDealDue
							case row.ends && ends == last:
								want = api.ErrDealFull
							}
							who := []uint64{stranger, buyer, seller, arbiter}[role]
							actsLike(t, img, who, on(verb, 7, 0), now, want)
						}
					}
				}
			}
		}
	}
}

// otherRules gives terms with a rule that refuses for every event but this one.
func otherRules(word string) string {
	var b strings.Builder
	for _, verb := range six {
		if w := theTable[verb].word; w != word {
			b.WriteString("on " + w + " { fail 9; } ")
		}
	}
	return b.String()
}

// actsLike has an action done on the house of an image, and looks at its code, and at the phase and the end behind it.
func actsLike(t *testing.T, img api.HouseImage, who uint64, c api.Cmd, now uint64, want api.Errno) {
	t.Helper()
	h := restored(t, img)
	got := h.Do(who, c, now)
	if got.Code != want {
		t.Errorf("%v: Do(%d, %v, %d) with %d ends: %d, want %d", img.Deals[0], who, c, now, img.Ends, got.Code, want)
		return
	}
	is := h.Image()
	soundMoney(t, img, is)
	d := img.Deals[0]
	if want == api.OK {
		row := theTable[c.Verb]
		d.Phase = row.then
		if row.ends {
			img.Ends++
			d.End = img.Ends
		}
	}
	if e := is.Deals[0]; e.Phase != d.Phase || e.End != d.End || is.Ends != img.Ends {
		t.Errorf("behind %v of %d: %v and %d ends, want phase %d, end %d and %d ends", c, who, e, is.Ends, d.Phase, d.End, img.Ends)
	}
}

func TestP5_8Unknown(t *testing.T) {
	h := funded(t, "")
	for _, verb := range six {
		for _, id := range []uint64{0, 1, 6, 8, most} {
			does(t, h, stranger, on(verb, id, 0), 0, api.ErrDealUnknown)
			does(t, h, buyer, on(verb, id, most), most, api.ErrDealUnknown)
		}
	}
}

// The role goes by who owns the account now: of an ended deal the accounts may be gone, or another's.
func TestP5_8RoleOfAnEndedDeal(t *testing.T) {
	h := opened(t, "")
	does(t, h, buyer, callingOff(7), 10, api.OK)
	does(t, h, arbiter, on(api.VFund, 7, 0), 10, api.ErrDealRole)
	does(t, h, arbiter, on(api.VExpire, 7, 0), 10, api.ErrDealPhase)
	does(t, h, arbiter, shut(3), 10, api.OK)
	does(t, h, arbiter, on(api.VExpire, 7, 0), 10, api.ErrDealRole)
	does(t, h, arbiter, looking(7), 10, api.ErrDealRole)
	does(t, h, stranger, enrol(3, 5), 10, api.OK)
	does(t, h, stranger, on(api.VExpire, 7, 0), 10, api.ErrDealPhase)
	does(t, h, stranger, on(api.VArbitrate, 7, 0), 10, api.ErrDealPhase)
	does(t, h, stranger, shut(3), 10, api.OK)
	does(t, h, buyer, enrol(3, 5), 10, api.OK)
	does(t, h, buyer, on(api.VArbitrate, 7, 0), 10, api.ErrDealRole) // buyer and arbiter: the first counts
	does(t, h, buyer, on(api.VFund, 7, 0), 10, api.ErrDealPhase)
	does(t, h, seller, shut(2), 10, api.OK)
	does(t, h, buyer, enrol(2, 5), 10, api.OK)
	does(t, h, buyer, on(api.VRefund, 7, 0), 10, api.ErrDealRole)
}

// Of each event the rule is told who asks, what the deal is like, and what is asked for.
func TestP5_9WhatARuleIsTold(t *testing.T) {
	phaseFor := map[api.Verb][]api.Phase{api.VFund: {1}, api.VRelease: {2, 3}, api.VDispute: {2}, api.VArbitrate: {3}, api.VRefund: {2, 3}, api.VExpire: {1, 2, 3}}
	for _, verb := range six {
		for _, phase := range phaseFor[verb] {
			held := "held == 60"
			if phase == api.PhaseOpen && verb != api.VFund {
				held = "held == 0"
			}
			quarrel := "not disputed"
			if phase == api.PhaseDisputed {
				quarrel = "disputed"
			}
			for role, who := range []uint64{buyer, seller, arbiter} {
				terms := "on " + theTable[verb].word + " { require caller == " + strconv.Itoa(role+1) + ", 1; require amount == 60, 2; require " + held + ", 3; require now == 33, 4; require opened == 10, 5; require due == 20, 6; require asked == " + strconv.FormatUint(most, 10) + ", 7; require " + quarrel + ", 8; }"
				actsLike(t, inPhase(phase, terms), who, on(verb, 7, most), 33, api.OK)
				h := restored(t, inPhase(phase, terms))
				others := []uint64{seller, arbiter, buyer}
				does(t, h, others[role], on(verb, 7, most), 33, api.ErrDealRule, 1, 1)
				does(t, h, who, on(verb, 7, most), 34, api.ErrDealRule, 1, 4)
				does(t, h, who, on(verb, 7, 0), 33, api.ErrDealRule, 1, 7)
			}
		}
	}
}

// What is held behind earlier payments is less than the amount.
func TestP5_9HeldIsWhatIsLeft(t *testing.T) {
	h := opened(t, "on fund { pay 7 to seller; } on dispute { require held == 53 and amount == 60, 1; pay 3 to buyer; } on arbitrate { require held == 50 and amount == 60, 2; }")
	does(t, h, buyer, on(api.VFund, 7, 0), 10, api.OK, 0, 7, 0)
	does(t, h, buyer, on(api.VDispute, 7, 0), 10, api.OK, 3, 0, 0)
	does(t, h, buyer, on(api.VArbitrate, 7, 0), 10, api.OK, 50, 0, 0)
	if d := deal7(t, h); d.Paid != [3]uint64{53, 7, 0} {
		t.Errorf("the deal is %v", d)
	}
}

func TestP5_9EveryEnd(t *testing.T) {
	for _, c := range []struct {
		rule      string
		end, fail uint64
	}{
		{"fail 999;", 1, 999},
		{"require false, 1;", 1, 1},
		{"while true { }", 2, 0},
		{"let x = 0 - 1;", 3, 0},
		{"let x = amount / 0;", 4, 0},
		{"pay amount + 1 to seller;", 5, 0},
		{"pay 0 to 4;", 6, 0},
		{"pay 1 to seller; fail 3;", 1, 3},
	} {
		for _, verb := range six {
			phase := theTable[verb].phases[0]
			h := restored(t, inPhase(phase, "on "+theTable[verb].word+" { "+c.rule+" }"))
			if c.end == 1 && phase == api.PhaseOpen && verb == api.VExpire && strings.HasPrefix(c.rule, "pay 1") {
				continue // nothing is held there
			}
			does(t, h, seller, on(verb, 7, 0), 20, api.ErrDealRule, c.end, c.fail)
		}
	}
}

// A rule has 1000 steps, not one more: the first one takes them all.
func TestP5_9Fuel(t *testing.T) {
	h := funded(t, "on refund { let n = 0; while n < 498 { set n = n + 1; } done; } on release { let n = 0; while n < 498 { set n = n + 1; } set n = 0; done; }")
	does(t, h, arbiter, on(api.VRelease, 7, 0), 10, api.ErrDealRule, 2, 0)
	does(t, h, arbiter, on(api.VRefund, 7, 0), 10, api.OK, 60, 0, 0)
}

// The money is held ahead of the rule: what the ledger refuses goes ahead of what the rule does.
func TestP5_9HoldComesFirst(t *testing.T) {
	h := opened(t, "on fund { fail 5; }")
	does(t, h, buyer, on(api.VFund, 7, 0), 10, api.ErrDealRule, 1, 5)
	balances(t, h, 100, 0, 0)
	does(t, h, buyer, transfer(1, 2, 41), 10, api.OK)
	does(t, h, buyer, on(api.VFund, 7, 0), 10, api.ErrLedgerFunds)
	does(t, h, seller, transfer(2, 1, 1), 10, api.OK)
	does(t, h, buyer, on(api.VFund, 7, 0), 10, api.ErrDealRule, 1, 5)
}

func TestP5_10Fund(t *testing.T) {
	h := opened(t, "")
	does(t, h, buyer, transfer(1, 2, 41), 10, api.OK)
	does(t, h, buyer, on(api.VFund, 7, 60), 10, api.ErrLedgerFunds)
	does(t, h, seller, transfer(2, 1, 1), 10, api.OK)
	does(t, h, buyer, on(api.VFund, 7, most), 10, api.OK, 0, 0, 0) // what is asked for does not matter
	balances(t, h, 0, 40, 0)
	holds(t, h, api.Hold{ID: 7, From: 1, Amount: 60})
	lines(t, h, api.Entry{Kind: api.EntryHold, From: 1, To: 7, Amount: 60})
	if d := deal7(t, h); d.Phase != api.PhaseFunded || d.Paid != [3]uint64{} || d.End != 0 {
		t.Errorf("the deal is %v", d)
	}
}

func TestP5_10Dispute(t *testing.T) {
	h := funded(t, "")
	next := h.Image().Book.Next
	does(t, h, buyer, on(api.VDispute, 7, 60), 10, api.OK, 0, 0, 0)
	if d := deal7(t, h); d.Phase != api.PhaseDisputed || d.Paid != [3]uint64{} || d.End != 0 || h.Image().Book.Next != next {
		t.Errorf("the deal is %v", d)
	}
	holds(t, h, api.Hold{ID: 7, From: 1, Amount: 60})
	does(t, h, buyer, on(api.VDispute, 7, 0), 10, api.ErrDealPhase)
}

func TestP5_10Arbitrate(t *testing.T) {
	for _, c := range []struct {
		asked uint64
		code  api.Errno
		lines []api.Entry
	}{
		{0, api.OK, []api.Entry{{Kind: api.EntryPay, From: 7, To: 1, Amount: 60}}},
		{1, api.OK, []api.Entry{{Kind: api.EntryPay, From: 7, To: 1, Amount: 59}, {Kind: api.EntryPay, From: 7, To: 2, Amount: 1}}},
		{59, api.OK, []api.Entry{{Kind: api.EntryPay, From: 7, To: 1, Amount: 1}, {Kind: api.EntryPay, From: 7, To: 2, Amount: 59}}},
		{60, api.OK, []api.Entry{{Kind: api.EntryPay, From: 7, To: 2, Amount: 60}}},
		{61, api.ErrDealAmount, nil},
		{most, api.ErrDealAmount, nil},
	} {
		h := disputed(t, "")
		if c.code != api.OK {
			does(t, h, arbiter, on(api.VArbitrate, 7, c.asked), 10, c.code)
			continue
		}
		next := h.Image().Book.Next
		does(t, h, arbiter, on(api.VArbitrate, 7, c.asked), 10, api.OK, 60-c.asked, c.asked, 0)
		lines(t, h, c.lines...)
		if n := h.Image().Book.Next - next; n != uint64(len(c.lines)) {
			t.Errorf("%d lines, want %d", n, len(c.lines))
		}
		balances(t, h, 100-c.asked, c.asked, 0)
		holds(t, h)
	}
}

// The amount that an arbiter may give is what is held, not the deal's.
func TestP5_10ArbitrateOfARest(t *testing.T) {
	h := opened(t, "on fund { pay 20 to seller; }")
	does(t, h, buyer, on(api.VFund, 7, 0), 10, api.OK, 0, 20, 0)
	does(t, h, buyer, on(api.VDispute, 7, 0), 10, api.OK, 0, 0, 0)
	does(t, h, arbiter, on(api.VArbitrate, 7, 41), 10, api.ErrDealAmount)
	does(t, h, arbiter, on(api.VArbitrate, 7, 40), 10, api.OK, 0, 40, 0)
	if d := deal7(t, h); d.Paid != [3]uint64{0, 60, 0} || d.Phase != api.PhaseRuled {
		t.Errorf("the deal is %v", d)
	}
}

// Without a rule the rest is all that is held; it goes to the seller with a release alone.
func TestP5_11TheRest(t *testing.T) {
	for _, verb := range []api.Verb{api.VRelease, api.VRefund, api.VExpire} {
		for _, make := range []func(*testing.T, string) *deal.House{funded, disputed} {
			h := make(t, "")
			to, want := uint64(1), []uint64{60, 0, 0}
			if verb == api.VRelease {
				to, want = 2, []uint64{0, 60, 0}
			}
			row := theTable[verb]
			does(t, h, []uint64{0, buyer, seller, arbiter}[row.who[len(row.who)-1]], on(verb, 7, most), 20, api.OK, want...)
			lines(t, h, api.Entry{Kind: api.EntryHold, From: 1, To: 7, Amount: 60}, api.Entry{Kind: api.EntryPay, From: 7, To: to, Amount: 60})
			if d := deal7(t, h); d.Phase != row.then || d.End != 1 || !slices.Equal(d.Paid[:], want) {
				t.Errorf("the deal is %v", d)
			}
			holds(t, h)
		}
	}
}

// With a rule that pays every party the rest is added to what its party gets.
func TestP5_11TheRestBehindARule(t *testing.T) {
	for _, c := range []struct {
		verb api.Verb
		want []uint64
	}{
		{api.VRelease, []uint64{3, 53, 4}},
		{api.VArbitrate, []uint64{51, 5, 4}},
		{api.VRefund, []uint64{51, 5, 4}},
		{api.VExpire, []uint64{51, 5, 4}},
	} {
		h := disputed(t, "on "+theTable[c.verb].word+" { pay 4 to arbiter; pay 5 to seller; pay 3 to buyer; }")
		does(t, h, arbiter, on(c.verb, 7, 0), 20, api.OK, c.want...)
		lines(t, h, api.Entry{Kind: api.EntryPay, From: 7, To: 1, Amount: c.want[0]}, api.Entry{Kind: api.EntryPay, From: 7, To: 2, Amount: c.want[1]}, api.Entry{Kind: api.EntryPay, From: 7, To: 3, Amount: c.want[2]})
		balances(t, h, 40+c.want[0], c.want[1], c.want[2])
		if d := deal7(t, h); !slices.Equal(d.Paid[:], c.want) {
			t.Errorf("the deal is %v", d)
		}
	}
}

// A rule that pays all leaves no rest, and no share for who gets nothing.
func TestP5_11NoRest(t *testing.T) {
	h := funded(t, "on refund { pay held - 10 to seller; pay 10 to arbiter; }")
	next := h.Image().Book.Next
	does(t, h, buyer, on(api.VRefund, 7, 0), 10, api.OK, 0, 50, 10)
	lines(t, h, api.Entry{Kind: api.EntryPay, From: 7, To: 2, Amount: 50}, api.Entry{Kind: api.EntryPay, From: 7, To: 3, Amount: 10})
	if n := h.Image().Book.Next - next; n != 2 {
		t.Errorf("%d lines", n)
	}
}

// With VFund and VDispute what is not paid stays held; the payments come in the order buyer, seller, arbiter.
func TestP5_11PaidAhead(t *testing.T) {
	for _, verb := range []api.Verb{api.VFund, api.VDispute} {
		h := opened(t, "on "+theTable[verb].word+" { pay 4 to arbiter; pay 5 to seller; pay 3 to buyer; pay 0 to seller; }")
		if verb == api.VDispute {
			does(t, h, buyer, on(api.VFund, 7, 0), 10, api.OK, 0, 0, 0)
		}
		does(t, h, arbiter, on(verb, 7, 0), 10, api.OK, 3, 5, 4)
		lines(t, h, api.Entry{Kind: api.EntryHold, From: 1, To: 7, Amount: 60}, api.Entry{Kind: api.EntryPay, From: 7, To: 1, Amount: 3}, api.Entry{Kind: api.EntryPay, From: 7, To: 2, Amount: 5}, api.Entry{Kind: api.EntryPay, From: 7, To: 3, Amount: 4})
		holds(t, h, api.Hold{ID: 7, From: 1, Amount: 48})
		balances(t, h, 43, 5, 4)
		if d := deal7(t, h); d.Phase != theTable[verb].then || d.Paid != [3]uint64{3, 5, 4} || d.End != 0 || h.Image().Ends != 0 {
			t.Errorf("the deal is %v", d)
		}
		does(t, h, buyer, looking(7), 10, api.OK, uint64(theTable[verb].then), 60, 48, 10, 20, 3, 5, 4)
	}
}

// All may be paid ahead: then nothing is held, the deal is still alive, and its end pays nothing and writes nothing.
func TestP5_11AllPaidAhead(t *testing.T) {
	for _, verb := range []api.Verb{api.VRelease, api.VRefund, api.VExpire, api.VArbitrate} {
		h := opened(t, "on fund { pay 20 to seller; pay 40 to buyer; }")
		does(t, h, arbiter, on(api.VFund, 7, 0), 10, api.OK, 40, 20, 0)
		holds(t, h)
		does(t, h, seller, on(api.VDispute, 7, 0), 10, api.OK, 0, 0, 0)
		does(t, h, arbiter, shut(3), 10, api.ErrLedgerBusy)
		does(t, h, arbiter, looking(7), 10, api.OK, 3, 60, 0, 10, 20, 40, 20, 0)
		next := h.Image().Book.Next
		if verb == api.VArbitrate {
			does(t, h, arbiter, on(verb, 7, 1), 10, api.ErrDealAmount)
		}
		who := []uint64{0, buyer, seller, arbiter}[theTable[verb].who[0]]
		does(t, h, who, on(verb, 7, 0), 20, api.OK, 0, 0, 0)
		if d := deal7(t, h); d.Phase != theTable[verb].then || d.Paid != [3]uint64{40, 20, 0} || d.End != 1 || h.Image().Book.Next != next {
			t.Errorf("the deal is %v", d)
		}
	}
}

// A deal that was never funded may expire, by its rule or without one: nothing is held, nothing paid.
func TestP5_11ExpiredOpen(t *testing.T) {
	for _, terms := range []string{"", "on expire { require held == 0 and not disputed, 1; pay held to seller; }"} {
		h := opened(t, terms)
		does(t, h, seller, on(api.VExpire, 7, 0), 20, api.OK, 0, 0, 0)
		if d := deal7(t, h); d.Phase != api.PhaseExpired || d.Paid != [3]uint64{} || d.End != 1 || h.Image().Book.Next != 1 {
			t.Errorf("the deal is %v", d)
		}
	}
	h := opened(t, "on expire { pay 1 to seller; }")
	does(t, h, seller, on(api.VExpire, 7, 0), 20, api.ErrDealRule, 5, 0)
}

// What the ledger refuses half way is taken back, whatever was done ahead of it.
func TestP5_11RefusedHalfWay(t *testing.T) {
	h := opened(t, "on fund { pay 1 to buyer; pay 2 to seller; pay 51 to arbiter; }")
	does(t, h, buyer, on(api.VFund, 7, 0), 10, api.ErrLedgerCap)
	h = funded(t, "on dispute { pay 1 to buyer; pay 2 to seller; pay 51 to arbiter; } on expire { pay 51 to arbiter; }")
	does(t, h, buyer, on(api.VDispute, 7, 0), 10, api.ErrLedgerCap)
	does(t, h, buyer, on(api.VExpire, 7, 0), 20, api.ErrLedgerCap)
	does(t, h, buyer, on(api.VRelease, 7, 0), 20, api.OK, 0, 60, 0)

	// A rest that its party may not have: the whole end is refused.
	h = begun(t, api.Account{ID: 1, Owner: buyer, Balance: 100, Cap: 100}, api.Account{ID: 2, Owner: seller, Cap: 59}, api.Account{ID: 3, Owner: arbiter, Cap: 9})
	does(t, h, buyer, opening(7, ""), 10, api.OK)
	does(t, h, buyer, on(api.VFund, 7, 0), 10, api.OK, 0, 0, 0)
	does(t, h, buyer, on(api.VRelease, 7, 0), 10, api.ErrLedgerCap)
	does(t, h, seller, on(api.VDispute, 7, 0), 10, api.OK, 0, 0, 0)
	does(t, h, arbiter, on(api.VArbitrate, 7, 60), 10, api.ErrLedgerCap)
	does(t, h, arbiter, on(api.VArbitrate, 7, 59), 10, api.OK, 1, 59, 0)
}

// The journal runs full in the middle of an action.
func TestP5_11JournalFull(t *testing.T) {
	terms := "on fund { pay 1 to buyer; pay 2 to seller; } on release { pay 3 to arbiter; }"
	open := opened(t, terms).Image()
	for left, want := range []api.Errno{api.ErrLedgerFull, api.ErrLedgerFull, api.ErrLedgerFull, api.OK} {
		h := restored(t, atLine(open, last-uint64(left)))
		if want == api.OK {
			does(t, h, buyer, on(api.VFund, 7, 0), 10, want, 1, 2, 0)
		} else {
			does(t, h, buyer, on(api.VFund, 7, 0), 10, want)
		}
	}
	h := restored(t, open)
	does(t, h, buyer, on(api.VFund, 7, 0), 10, api.OK, 1, 2, 0)
	paid := h.Image()
	for left, want := range []api.Errno{api.ErrLedgerFull, api.ErrLedgerFull, api.OK} {
		h := restored(t, atLine(paid, last-uint64(left)))
		does(t, h, buyer, on(api.VDispute, 7, 0), 10, api.OK, 0, 0, 0) // without a rule it writes nothing
		if want == api.OK {
			does(t, h, buyer, on(api.VRelease, 7, 0), 10, want, 0, 54, 3)
		} else {
			does(t, h, buyer, on(api.VRelease, 7, 0), 10, want)
		}
	}
}

// The ends are counted through, whatever ends in between.
func TestP5_11Ends(t *testing.T) {
	h := house(t)
	for id := uint64(1); id <= 5; id++ {
		c := opening(id, "")
		c.Amount = 10
		does(t, h, buyer, c, 10, api.OK)
	}
	for id := uint64(1); id <= 3; id++ {
		does(t, h, buyer, on(api.VFund, id, 0), 10, api.OK, 0, 0, 0)
	}
	does(t, h, seller, on(api.VDispute, 2, 0), 10, api.OK, 0, 0, 0)
	does(t, h, seller, on(api.VRefund, 3, 0), 10, api.OK, 10, 0, 0)
	does(t, h, arbiter, on(api.VArbitrate, 2, 4), 10, api.OK, 6, 4, 0)
	does(t, h, arbiter, callingOff(5), 10, api.OK)
	does(t, h, arbiter, on(api.VExpire, 4, 0), 20, api.OK, 0, 0, 0)
	does(t, h, buyer, on(api.VRelease, 1, 0), 10, api.OK, 0, 10, 0)
	want := []uint64{5, 2, 1, 4, 3}
	for i, d := range h.Image().Deals {
		if d.End != want[i] {
			t.Errorf("deal %d has the end %d, want %d", d.ID, d.End, want[i])
		}
	}
}

// The greatest numbers: nothing wraps.
func TestP5_11GreatestNumbers(t *testing.T) {
	h := begun(t, api.Account{ID: 1, Owner: buyer, Balance: most, Cap: most}, api.Account{ID: 2, Owner: seller, Cap: most}, api.Account{ID: 3, Owner: arbiter, Cap: most})
	c := opening(7, "on fund { pay 1 to arbiter; } on arbitrate { pay asked to seller; }")
	c.Amount, c.Due = most, most
	does(t, h, buyer, c, 10, api.OK)
	does(t, h, buyer, on(api.VFund, 7, 0), most, api.OK, 0, 0, 1)
	does(t, h, buyer, looking(7), 10, api.OK, 2, most, most-1, 10, most, 0, 0, 1)
	does(t, h, buyer, on(api.VDispute, 7, 0), most, api.OK, 0, 0, 0)
	does(t, h, seller, on(api.VArbitrate, 7, most), most, api.ErrDealRule, 5, 0)
	does(t, h, seller, on(api.VExpire, 7, most), most-1, api.ErrDealDue)
	does(t, h, seller, on(api.VArbitrate, 7, most-2), most, api.OK, 1, most-2, 0)
	balances(t, h, 1, most-2, 1)
}

func TestP5_12CallOff(t *testing.T) {
	for _, who := range []uint64{buyer, seller, arbiter} {
		h := opened(t, "on expire { fail 1; }")
		does(t, h, who, callingOff(8), 0, api.ErrDealUnknown)
		does(t, h, who, callingOff(0), 0, api.ErrDealUnknown)
		does(t, h, stranger, callingOff(7), 0, api.ErrDealRole)
		does(t, h, who, callingOff(7), 0, api.OK)
		want := api.Deal{ID: 7, Buyer: 1, Seller: 2, Arbiter: 3, Amount: 60, Opened: 10, Due: 20, Phase: api.PhaseCalledOff, End: 1, Terms: "on expire { fail 1; }"}
		if d := deal7(t, h); d != want || h.Image().Ends != 1 || h.Image().Book.Next != 1 {
			t.Errorf("the deal is %v", d)
		}
		does(t, h, who, callingOff(7), 0, api.ErrDealPhase)
		does(t, h, stranger, callingOff(7), 0, api.ErrDealRole)
	}
	for phase := api.PhaseOpen; phase <= api.PhaseCalledOff; phase++ {
		for _, ends := range []uint64{1, last - 1, last} {
			img := inPhase(phase, "")
			img.Ends = ends
			want := api.OK
			switch {
			case phase != api.PhaseOpen:
				want = api.ErrDealPhase
			case ends == last:
				want = api.ErrDealFull
			}
			h := restored(t, img)
			does(t, h, stranger, callingOff(7), 0, api.ErrDealRole)
			does(t, h, seller, callingOff(7), 0, want)
			if want == api.OK && (deal7(t, h).End != ends+1 || h.Image().Ends != ends+1) {
				t.Errorf("the deal is %v", deal7(t, h))
			}
		}
	}
}

func TestP5_12Look(t *testing.T) {
	for phase := api.PhaseOpen; phase <= api.PhaseCalledOff; phase++ {
		img := inPhase(phase, "")
		img.Deals[0].Opened, img.Deals[0].Due = 11, most
		if phase == api.PhaseReleased {
			img.Deals[0].Paid = [3]uint64{10, 20, 30}
		}
		held := uint64(0)
		if phase == api.PhaseFunded || phase == api.PhaseDisputed {
			held = 60
		}
		paid := img.Deals[0].Paid
		h := restored(t, img)
		for _, who := range []uint64{buyer, seller, arbiter} {
			was := h.Image()
			does(t, h, who, looking(7), 0, api.OK, uint64(phase), 60, held, 11, most, paid[0], paid[1], paid[2])
			if is := h.Image(); is.Book.Next != was.Book.Next || is.Deals[0] != was.Deals[0] || is.Ends != was.Ends {
				t.Errorf("a look has changed the house: %v", is)
			}
		}
		does(t, h, stranger, looking(7), 0, api.ErrDealRole)
		does(t, h, stranger, looking(0), 0, api.ErrDealUnknown)
		does(t, h, buyer, looking(6), 0, api.ErrDealUnknown)
	}
}

// However many actions were done and refused ahead of it, one that is refused half way leaves nothing behind.
func TestP5_5ManyActions(t *testing.T) {
	h := house(t)
	for id := uint64(1); id <= 40; id++ {
		c := opening(id, "on fund { pay asked to arbiter; require asked == 1, 4; }")
		c.Amount = 10
		does(t, h, buyer, c, 10, api.OK)
		does(t, h, buyer, on(api.VFund, id, 2), 10, api.ErrDealRule, 1, 4)
		does(t, h, buyer, on(api.VFund, id, 11), 10, api.ErrDealRule, 5, 0)
		does(t, h, buyer, on(api.VFund, id, 1), 10, api.OK, 0, 0, 1)
		does(t, h, seller, on(api.VDispute, id, 0), 10, api.OK, 0, 0, 0)
		does(t, h, arbiter, on(api.VArbitrate, id, 10), 10, api.ErrDealAmount)
		does(t, h, arbiter, on(api.VArbitrate, id, 9), 10, api.OK, 0, 9, 0)
		does(t, h, seller, transfer(2, 1, 9), 10, api.OK)
		does(t, h, arbiter, transfer(3, 1, 1), 10, api.OK)
	}
	c := opening(50, "on fund { pay 51 to arbiter; }")
	does(t, h, buyer, c, 10, api.OK)
	does(t, h, buyer, on(api.VFund, 50, 0), 10, api.ErrLedgerCap)
}
