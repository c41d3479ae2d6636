package deal_test

import (
	"testing"

	"quorum/api"
)

func TestP5_6Enrol(t *testing.T) {
	h := house(t)
	does(t, h, stranger, enrol(9, 40), 0, api.OK)
	does(t, h, most, enrol(most, most), most, api.OK)
	does(t, h, 0, enrol(5, 0), 0, api.OK)
	does(t, h, stranger, enrol(10, 7), 0, api.OK) // one client may have several
	want := append(threeAccounts(), api.Account{ID: 5}, api.Account{ID: 9, Owner: stranger, Cap: 40}, api.Account{ID: 10, Owner: stranger, Cap: 7}, api.Account{ID: most, Owner: most, Cap: most})
	for i, a := range h.Image().Book.Accounts {
		if a != want[i] {
			t.Errorf("account %d is %v, want %v", i, a, want[i])
		}
	}
	lines(t, h, api.Entry{Kind: api.EntryCreate, From: 9, Amount: 40}, api.Entry{Kind: api.EntryCreate, From: most, Amount: most}, api.Entry{Kind: api.EntryCreate, From: 5}, api.Entry{Kind: api.EntryCreate, From: 10, Amount: 7})
	does(t, h, stranger, enrol(0, 1), 0, api.ErrLedgerZero)
	does(t, h, stranger, enrol(1, 1), 0, api.ErrLedgerTaken)
	for id := uint64(100); len(h.Image().Book.Accounts) < 64; id++ {
		does(t, h, stranger, enrol(id, 1), 0, api.OK)
	}
	does(t, h, stranger, enrol(99, 1), 0, api.ErrLedgerFull)
	does(t, h, stranger, enrol(9, 1), 0, api.ErrLedgerTaken)
}

func TestP5_6Close(t *testing.T) {
	h := house(t)
	does(t, h, seller, shut(0), 0, api.ErrLedgerZero)
	does(t, h, seller, shut(9), 0, api.ErrLedgerUnknown)
	does(t, h, seller, shut(1), 0, api.ErrDealRole)
	does(t, h, buyer, shut(1), 0, api.ErrLedgerBusy) // it has 100
	does(t, h, seller, shut(2), 0, api.OK)
	lines(t, h, api.Entry{Kind: api.EntryClose, From: 2})
	does(t, h, seller, shut(2), 0, api.ErrLedgerUnknown)
	balances(t, h, 100, 0)
	does(t, h, stranger, enrol(2, 5), 0, api.OK) // the number may be used again, by anybody
	does(t, h, seller, shut(2), 0, api.ErrDealRole)
	does(t, h, stranger, shut(2), 0, api.OK)
}

// The account of each party, in each phase of its deal.
func TestP5_6CloseOfAParty(t *testing.T) {
	phases := map[string]api.Errno{"open": api.ErrLedgerBusy, "funded": api.ErrLedgerBusy, "disputed": api.ErrLedgerBusy, "released": api.OK, "called off": api.OK}
	for phase, want := range phases {
		for role, owner := range []uint64{buyer, seller, arbiter} {
			h := house(t)
			does(t, h, buyer, transfer(1, 2, 40), 0, api.OK)
			does(t, h, seller, enrol(20, 500), 0, api.OK)
			does(t, h, buyer, opening(7, ""), 10, api.OK)
			if phase != "open" && phase != "called off" {
				does(t, h, buyer, on(api.VFund, 7, 0), 10, api.OK, 0, 0, 0)
			}
			switch phase {
			case "disputed":
				does(t, h, seller, on(api.VDispute, 7, 0), 10, api.OK, 0, 0, 0)
			case "released":
				does(t, h, buyer, on(api.VRelease, 7, 0), 10, api.OK, 0, 60, 0)
			case "called off":
				does(t, h, arbiter, callingOff(7), 10, api.OK)
				does(t, h, buyer, transfer(1, 2, 60), 10, api.OK)
			}
			rest := uint64(40)
			if want == api.OK {
				rest = 100
			}
			does(t, h, seller, transfer(2, 20, rest), 10, api.OK) // no party's account has anything now
			does(t, h, stranger, shut(uint64(role)+1), 10, api.ErrDealRole)
			does(t, h, owner, shut(uint64(role)+1), 10, unlessEmpty(h.Image(), uint64(role)+1, want))
			does(t, h, seller, shut(20), 10, api.ErrLedgerBusy) // of no deal, but it has money
		}
	}
}

// unlessEmpty tells what closing comes to: an account that has something is always needed.
func unlessEmpty(img api.HouseImage, id uint64, want api.Errno) api.Errno {
	for _, a := range img.Book.Accounts {
		if a.ID == id && a.Balance > 0 {
			return api.ErrLedgerBusy
		}
	}
	return want
}

func TestP5_6Transfer(t *testing.T) {
	h := house(t)
	does(t, h, buyer, transfer(1, 2, 30), 0, api.OK)
	balances(t, h, 70, 30, 0)
	lines(t, h, api.Entry{Kind: api.EntryMove, From: 1, To: 2, Amount: 30})
	does(t, h, buyer, transfer(0, 9, 0), 0, api.ErrLedgerZero)
	does(t, h, buyer, transfer(9, 0, 0), 0, api.ErrLedgerUnknown)
	does(t, h, seller, transfer(1, 0, 0), 0, api.ErrDealRole)
	does(t, h, buyer, transfer(1, 0, 0), 0, api.ErrLedgerZero)
	does(t, h, buyer, transfer(1, 9, 0), 0, api.ErrLedgerUnknown)
	does(t, h, buyer, transfer(1, 1, 0), 0, api.ErrLedgerSame)
	does(t, h, buyer, transfer(1, 2, 0), 0, api.ErrLedgerAmount)
	does(t, h, buyer, transfer(1, 2, 71), 0, api.ErrLedgerFunds)
	does(t, h, buyer, transfer(1, 2, most), 0, api.ErrLedgerFunds)
	does(t, h, buyer, transfer(1, 3, 51), 0, api.ErrLedgerCap)
	does(t, h, buyer, transfer(1, 3, 50), 0, api.OK)
	does(t, h, arbiter, transfer(3, 1, 50), 0, api.OK)
	does(t, h, buyer, transfer(1, 2, 70), 0, api.OK)
	balances(t, h, 0, 100, 0)
}

func TestP5_6Balance(t *testing.T) {
	h := house(t)
	does(t, h, buyer, balance(1), 0, api.OK, 100, 500)
	does(t, h, arbiter, balance(3), most, api.OK, 0, 50)
	does(t, h, buyer, balance(0), 0, api.ErrLedgerZero)
	does(t, h, buyer, balance(4), 0, api.ErrLedgerUnknown)
	does(t, h, buyer, balance(2), 0, api.ErrDealRole)
	h = begun(t, api.Account{ID: most, Owner: most, Balance: most, Cap: most})
	does(t, h, most, balance(most), 0, api.OK, most, most)
	if img := h.Image(); img.Book.Next != 1 {
		t.Errorf("queries have made lines: the next is %d", img.Book.Next)
	}
}

// The journal is full: what would write a line is refused, behind every other reason.
func TestP5_6JournalFull(t *testing.T) {
	h := restored(t, atLine(house(t).Image(), last))
	does(t, h, buyer, enrol(9, 1), 0, api.ErrLedgerFull)
	does(t, h, buyer, enrol(1, 1), 0, api.ErrLedgerTaken)
	does(t, h, seller, shut(2), 0, api.ErrLedgerFull)
	does(t, h, buyer, transfer(1, 2, 1), 0, api.ErrLedgerFull)
	does(t, h, buyer, balance(1), 0, api.OK, 100, 500)
	does(t, h, buyer, opening(7, ""), 10, api.OK)
	does(t, h, seller, shut(2), 0, api.ErrLedgerBusy)
}
