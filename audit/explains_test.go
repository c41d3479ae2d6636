package audit_test

import (
	"slices"
	"testing"

	"quorum/api"
	"quorum/audit"
)

// three calls that overlap: 256 pays 10 to 257, who asks for its balance; one of 256 has no answer.
func three(t testing.TB) []api.Call {
	t.Helper()
	return ran(t, twoAccounts(), []int{0, 2},
		api.Call{Client: 256, Seq: 1, Cmd: move(t, 1, 2, 10), From: 0, To: 9, Stamp: 5},
		api.Call{Client: 256, Seq: 2, Cmd: move(t, 1, 2, 20), From: 3, To: -1, Stamp: 6},
		api.Call{Client: 257, Seq: 1, Cmd: balance(t, 2), From: 2, To: 8, Stamp: 6})
}

func TestP17_2Explains(t *testing.T) {
	for _, order := range [][]int{{0, 2}, {0, 2, 1}} {
		if err := audit.Explains(twoAccounts(), three(t), order); err != nil {
			t.Errorf("Explains(%v): %v", order, err)
		}
	}
	for _, order := range [][]int{nil, {}} {
		if err := audit.Explains(twoAccounts(), nil, order); err != nil {
			t.Errorf("no calls: %v", err)
		}
		if err := audit.Explains(twoAccounts(), eight(), order); err != nil {
			t.Errorf("no answers: %v", err)
		}
		isFault(t, "no order", audit.Explains(twoAccounts(), three(t), order), api.ErrAuditLeft, 0)
	}
}

func TestP17_2Place(t *testing.T) {
	for _, place := range []int{-1, 3, 4, 8, 63, 64, 65, 1 << 40, 1<<63 - 1, -1 << 63} {
		isFault(t, "no place", audit.Explains(twoAccounts(), three(t), []int{place}), api.ErrAuditPlace, 0)
		isFault(t, "no place", audit.Explains(twoAccounts(), three(t), []int{0, 2, place, 1}), api.ErrAuditPlace, 2)
		isFault(t, "no place, no calls", audit.Explains(twoAccounts(), nil, []int{place}), api.ErrAuditPlace, 0)
	}
	isFault(t, "twice", audit.Explains(twoAccounts(), three(t), []int{0, 0}), api.ErrAuditPlace, 1)
	isFault(t, "twice", audit.Explains(twoAccounts(), three(t), []int{0, 2, 1, 0}), api.ErrAuditPlace, 3)
	isFault(t, "twice, without an answer", audit.Explains(twoAccounts(), eight(), []int{0, 1, 2, 1}), api.ErrAuditPlace, 3)
	isFault(t, "a long order", audit.Explains(twoAccounts(), eight(), make([]int, 100000)), api.ErrAuditPlace, 1)
}

// Just below: a call that ended as the other began may stand on either side.
func TestP17_2Early(t *testing.T) {
	for ahead := range 4 {
		calls := eight()[:4] // none of them has an effect
		for i := range calls {
			calls[i].To, calls[i].Code = 20, api.ErrDealCommand
		}
		calls[ahead].To = 6
		last := (ahead + 1) % 4
		order := slices.DeleteFunc([]int{0, 1, 2, 3}, func(place int) bool { return place == last || place == ahead })
		order = append([]int{last}, append(order, ahead)...)
		for i := range calls { // each of a client of its own, as numbers do not matter here
			calls[i].Client = 300 + uint64(i)
		}
		calls[last].From = 6
		if err := audit.Explains(twoAccounts(), calls, order); err != nil {
			t.Errorf("Explains(%v): %v", order, err)
		}
		calls[last].From = 7
		isFault(t, "begun behind the other's end", audit.Explains(twoAccounts(), calls, order), api.ErrAuditEarly, 0)
		calls[ahead].To, calls[ahead].Code = -1, 0 // without an answer it has no end
		if err := audit.Explains(twoAccounts(), calls, order); err != nil {
			t.Errorf("Explains(%v): %v", order, err)
		}
		calls[last].To, calls[last].Code = -1, 0 // one without an answer must keep to the others' ends, too
		calls[ahead].To, calls[ahead].Code = 6, api.ErrDealCommand
		isFault(t, "without an answer", audit.Explains(twoAccounts(), calls, order), api.ErrAuditEarly, 0)
		if err := audit.Explains(twoAccounts(), calls, order[1:]); err != nil {
			t.Errorf("Explains(%v): %v", order[1:], err)
		}
	}
}

func TestP17_2Stamp(t *testing.T) {
	calls := []api.Call{
		{Client: 256, Seq: 1, To: -1, Stamp: 5}, {Client: 257, Seq: 1, To: -1, Stamp: 6}, {Client: 258, Seq: 1, To: -1, Stamp: 5},
		{Client: 259, Seq: 1, To: 9, Stamp: 5, Code: api.ErrDealCommand},
	}
	for _, order := range [][]int{{0, 2, 3}, {3, 2, 0, 1}, {0, 3, 1}, {2, 0, 3, 1}} {
		if err := audit.Explains(twoAccounts(), calls, order); err != nil {
			t.Errorf("Explains(%v): %v", order, err)
		}
	}
	isFault(t, "back", audit.Explains(twoAccounts(), calls, []int{1, 0}), api.ErrAuditStamp, 1)
	isFault(t, "back, with an answer", audit.Explains(twoAccounts(), calls, []int{0, 2, 1, 3}), api.ErrAuditStamp, 3)
	calls[3].Stamp = 1 << 40
	isOrder(t, "the last stamp", twoAccounts(), calls, 0, 1, 3)
	calls[0].Stamp, calls[1].Stamp, calls[2].Stamp, calls[3].Stamp = 0, 0, 0, 0
	isOrder(t, "no stamps", twoAccounts(), calls, 0, 1, 2, 3)
}

// Each part of an answer counts; that of a call without one is let go.
func TestP17_2Answer(t *testing.T) {
	for what, turn := range map[string]func(c *api.Call){
		"account":     func(c *api.Call) { c.Cmd = balance(t, 1) },
		"code":        func(c *api.Call) { c.Code = api.ErrDealRole },
		"one byte":    func(c *api.Call) { c.Data[15] ^= 1 },
		"first byte":  func(c *api.Call) { c.Data[0] ^= 1 },
		"a byte more": func(c *api.Call) { c.Data = append(c.Data, 0) },
		"a byte less": func(c *api.Call) { c.Data = c.Data[:15] },
		"no data":     func(c *api.Call) { c.Data = nil },
		"client":      func(c *api.Call) { c.Client = 258 },
		"command":     func(c *api.Call) { c.Cmd = nil },
	} {
		calls := three(t)
		turn(&calls[2])
		isFault(t, what, audit.Explains(twoAccounts(), calls, []int{0, 2}), api.ErrAuditAnswer, 1)
		noOrder(t, what, twoAccounts(), calls)
		calls[2].To, calls[2].Code, calls[2].Data = -1, 0, nil
		if err := audit.Explains(twoAccounts(), calls, []int{0, 2}); err != nil {
			t.Errorf("%s, without an answer: %v", what, err)
		}
	}
	calls := three(t)
	calls[0].Data = []byte{} // nil and empty are the same
	isOrder(t, "empty data", twoAccounts(), calls, 0, 2)
}

// A number below one of that client that ran is not answered; such a call may still be in the order without an answer.
func TestP17_2NoAnswer(t *testing.T) {
	calls := []api.Call{
		{Client: 300, Seq: 2, To: 9, Code: api.ErrDealCommand},
		{Client: 300, Seq: 1, To: 9, Code: api.ErrDealCommand},
	}
	isFault(t, "no answer", audit.Explains(twoAccounts(), calls, []int{0, 1}), api.ErrAuditAnswer, 1)
	isOrder(t, "in the order of numbers", twoAccounts(), calls, 1, 0)
	calls[1] = api.Call{Client: 300, Seq: 1, To: -1}
	if err := audit.Explains(twoAccounts(), calls, []int{0, 1}); err != nil {
		t.Error(err)
	}
}

// At one place the reasons come in their order, and an earlier place counts ahead of all others.
func TestP17_2Order(t *testing.T) {
	calls := ran(t, twoAccounts(), []int{0, 1},
		api.Call{Client: 256, Seq: 1, Cmd: move(t, 1, 2, 10), From: 0, To: 3, Stamp: 6},
		api.Call{Client: 257, Seq: 1, Cmd: balance(t, 2), From: 4, To: 8, Stamp: 6},
		api.Call{Client: 258, Seq: 1, From: 0, To: -1, Stamp: 7})
	explained := func(order ...int) error { return audit.Explains(twoAccounts(), calls, order) }
	isFault(t, "early and another answer", explained(1), api.ErrAuditEarly, 0)
	isFault(t, "early, stamp and another answer", explained(2, 1), api.ErrAuditEarly, 1)
	isFault(t, "a place that stood there, early", explained(2, 2, 1), api.ErrAuditPlace, 1)
	isFault(t, "stamp", explained(2, 0), api.ErrAuditStamp, 1)
	isFault(t, "an earlier one", explained(2, 0, 2, 1, 9), api.ErrAuditStamp, 1)
	calls[0].Code = api.ErrDealRole
	isFault(t, "stamp and another answer", explained(2, 0), api.ErrAuditStamp, 1)
	isFault(t, "another answer, and one left", explained(0), api.ErrAuditAnswer, 0)
	isFault(t, "another answer, then no place", explained(0, -1), api.ErrAuditAnswer, 0)
	isFault(t, "no place, then another answer", explained(-1, 0), api.ErrAuditPlace, 0)
	isFault(t, "one left", explained(2), api.ErrAuditLeft, 1)
}
