package session_test

import (
	"testing"

	"quorum/api"
	"quorum/deal"
	"quorum/session"
)

func TestP7_1New(t *testing.T) {
	for _, list := range [][]api.Account{nil, {}, twoAccounts(), twoAccounts()[1:], {twoAccounts()[1], twoAccounts()[0]}, {{ID: most, Owner: most, Balance: most, Cap: most}}} {
		house, err := deal.New(list)
		if err != nil {
			t.Fatal(err)
		}
		m := begun(t, list...)
		if img := m.Image(); !same(img, api.Image{House: house.Image()}) || m.Slot() != 0 || m.Now() != 0 {
			t.Errorf("New(%v): %v", list, img)
		}
	}
}

func TestP7_1Refusals(t *testing.T) {
	two := twoAccounts()
	long := make([]api.Account, api.MaxAccts+1)
	for i := range long {
		long[i].ID = uint64(i) + 1
	}
	for _, list := range [][]api.Account{
		{{}},
		{two[0], {}},
		{two[0], two[1], two[1]},
		{two[0], two[1], {ID: 3, Balance: 2, Cap: 1}},
		{{ID: 1, Balance: most, Cap: most}, {ID: 2, Balance: 1, Cap: 1}},
		long,
	} {
		_, lower := deal.New(list)
		m, err := session.New(list)
		isLower(t, "New", err, lower)
		if m != nil {
			t.Errorf("New(%v): a machine beside a refusal", list)
		}
	}
	if _, err := session.New(long[:api.MaxAccts]); err != nil {
		t.Errorf("as many accounts as there may be: %v", err)
	}
}

func TestP7_1NothingIsKept(t *testing.T) {
	list := twoAccounts()
	m := begun(t, list...)
	list[0].Balance = 3
	balances(t, m, 100, 0)
	runs(t, m, batch(1, ask(300, 1, T)), reply(300, 1, 1, api.OK))
	if list[0].Balance != 3 || list[1].Balance != 0 {
		t.Errorf("what was handed in is now %v", list)
	}
	other := begun(t, list...)
	balances(t, other, 3, 0)
	balances(t, m, 70, 30)
}
