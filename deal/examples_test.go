package deal_test

import (
	"testing"

	"quorum/api"
	"quorum/deal"
)

func TestExample1(t *testing.T) {
	packs(t, on(api.VFund, 7, 0), []byte{5, 7, 0})
	_, err := deal.Unpack([]byte{5, 7})
	isLower(t, "Unpack", err, 2, "wire", api.ErrWireShort, 2)
	_, err = deal.Unpack([]byte{0x0E})
	isFault(t, "Unpack", err, api.ErrDealCommand, 0)
	_, err = deal.Pack(api.Cmd{Verb: api.VFund, Deal: 7, Acct: 1})
	isFault(t, "Pack", err, api.ErrDealCommand, 2)
}

func TestExample2(t *testing.T) {
	h := house(t)
	does(t, h, buyer, opening(7, ""), 10, api.OK)
	does(t, h, seller, on(api.VFund, 7, 0), 10, api.ErrDealRole)
	does(t, h, buyer, on(api.VRelease, 7, 0), 10, api.ErrDealPhase)
	does(t, h, buyer, on(api.VFund, 7, 0), 10, api.OK, 0, 0, 0)
	balances(t, h, 40, 0, 0)
	holds(t, h, api.Hold{ID: 7, From: 1, Amount: 60})
}

func TestExample3(t *testing.T) {
	h := funded(t, "")
	does(t, h, seller, on(api.VDispute, 7, 0), 10, api.OK, 0, 0, 0)
	does(t, h, arbiter, on(api.VArbitrate, 7, 61), 10, api.ErrDealAmount)
	does(t, h, arbiter, on(api.VArbitrate, 7, 25), 10, api.OK, 35, 25, 0)
	balances(t, h, 75, 25, 0)
	if d := deal7(t, h); d.Phase != api.PhaseRuled || d.Paid != [3]uint64{35, 25, 0} || d.End != 1 {
		t.Errorf("the deal is %v", d)
	}
	does(t, h, arbiter, looking(7), 10, api.OK, 5, 60, 0, 10, 20, 35, 25, 0)
}

func TestExample4(t *testing.T) {
	h := funded(t, "")
	does(t, h, arbiter, on(api.VExpire, 7, 0), 19, api.ErrDealDue)
	does(t, h, arbiter, on(api.VExpire, 7, 0), 20, api.OK, 60, 0, 0)
}

func TestExample5(t *testing.T) {
	h := funded(t, "on release { require caller == buyer, 7; pay share(held, 1, 10) to arbiter; }")
	does(t, h, seller, on(api.VRelease, 7, 0), 10, api.ErrDealRule, 1, 7)
	does(t, h, buyer, on(api.VRelease, 7, 0), 10, api.OK, 0, 54, 6)
}

func TestExample6(t *testing.T) {
	h := funded(t, "on release { pay 51 to arbiter; }")
	does(t, h, buyer, on(api.VRelease, 7, 0), 10, api.ErrLedgerCap)
}

func TestExample7(t *testing.T) {
	h := opened(t, "on fund { pay 5 to arbiter; }")
	does(t, h, seller, on(api.VFund, 7, 0), 10, api.OK, 0, 0, 5)
	holds(t, h, api.Hold{ID: 7, From: 1, Amount: 55})
	if d := deal7(t, h); d.Paid != [3]uint64{0, 0, 5} {
		t.Errorf("the deal is %v", d)
	}
	does(t, h, buyer, on(api.VRelease, 7, 0), 10, api.OK, 0, 55, 0)
}

func TestExample8(t *testing.T) {
	h := house(t)
	does(t, h, buyer, opening(7, "on fund { pay 1 }"), 10, api.ErrDealTerms, 62, 16)
	does(t, h, buyer, opening(7, "on fund { break; }"), 10, api.ErrDealTerms, 69, 3)
}

func TestExample9(t *testing.T) {
	h := house(t)
	c := opening(7, "")
	c.Arbiter = 2
	does(t, h, buyer, c, 10, api.ErrDealParty)
	does(t, h, seller, opening(7, ""), 10, api.ErrDealRole)
	c = opening(7, "")
	c.Due = 10
	does(t, h, buyer, c, 10, api.ErrDealDue)
}

func TestExample10(t *testing.T) {
	h := opened(t, "")
	does(t, h, arbiter, shut(3), 10, api.ErrLedgerBusy)
	does(t, h, buyer, shut(3), 10, api.ErrDealRole)
	does(t, h, buyer, transfer(1, 2, 0), 10, api.ErrLedgerAmount)
	does(t, h, seller, transfer(1, 2, 0), 10, api.ErrDealRole)
}

// The second and the tenth of the examples of the whole, as far as the house has a part in them.
func TestExamplesOfTheWhole(t *testing.T) {
	h := begun(t, api.Account{ID: 1, Owner: 256, Balance: 100, Cap: 500}, api.Account{ID: 2, Owner: 257, Cap: 500}, api.Account{ID: 3, Owner: 258, Cap: 500})
	c := opening(7, "on release { require caller == buyer, 7; pay share(held, 1, 10) to arbiter; }")
	c.Amount, c.Due = 50, 900
	does(t, h, 256, c, 0, api.OK)
	does(t, h, 256, on(api.VFund, 7, 0), 0, api.OK, 0, 0, 0)
	does(t, h, 257, on(api.VRelease, 7, 0), 0, 110, 1, 7)
	does(t, h, 256, on(api.VRelease, 7, 0), 0, api.OK, 0, 45, 5)

	none, err := deal.New([]api.Account{{ID: 1, Owner: 256, Balance: 5, Cap: 4}})
	if none != nil {
		t.Error("a house with a balance above its cap")
	}
	isLower(t, "New", err, 0, "ledger", 47, 0)
}
