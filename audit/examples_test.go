package audit_test

import (
	"testing"

	"quorum/api"
	"quorum/audit"
)

// The chapter's examples, by their numbers.

func TestExample1(t *testing.T) {
	calls := ran(t, twoAccounts(), []int{0}, api.Call{Client: 256, Seq: 1, Cmd: move(t, 1, 2, 10), From: 0, To: 1, Stamp: 5})
	isOrder(t, "one call", twoAccounts(), calls, 0)
}

func TestExample2(t *testing.T) {
	// That the answers are right but for the numbers: with the look as number 3 the order [1 0] explains them.
	calls := ran(t, twoAccounts(), []int{1, 0},
		api.Call{Client: 256, Seq: 3, Cmd: balance(t, 1), From: 0, To: 9, Stamp: 5},
		api.Call{Client: 256, Seq: 2, Cmd: move(t, 1, 2, 10), From: 1, To: 8, Stamp: 5})
	isOrder(t, "with the greater number", twoAccounts(), calls, 1, 0)
	calls[0].Seq = 1
	noOrder(t, "with the smaller number", twoAccounts(), calls)
	isFault(t, "[1 0]", audit.Explains(twoAccounts(), calls, []int{1, 0}), api.ErrAuditAnswer, 1)
}

func TestExample3(t *testing.T) {
	calls := ran(t, twoAccounts(), []int{1, 0},
		api.Call{Client: 257, Seq: 1, Cmd: balance(t, 2), From: 0, To: 9, Stamp: 5},
		api.Call{Client: 256, Seq: 1, Cmd: move(t, 1, 2, 10), From: 1, To: 8, Stamp: 5})
	isOrder(t, "the look behind", twoAccounts(), calls, 1, 0)
}

func TestExample4(t *testing.T) {
	begun := []api.Call{
		{Client: 256, Seq: 1, Cmd: move(t, 1, 2, 10), From: 0, To: -1, Stamp: 5},
		{Client: 257, Seq: 1, Cmd: balance(t, 2), From: 3, To: 4, Stamp: 5},
	}
	isOrder(t, "told 10", twoAccounts(), ran(t, twoAccounts(), []int{0, 1}, begun...), 0, 1)
	isOrder(t, "told 0", twoAccounts(), ran(t, twoAccounts(), []int{1}, begun...), 1)
}

func TestExample5(t *testing.T) {
	c := api.Call{Client: 256, Seq: 1, Cmd: move(t, 1, 2, 10), To: -1}
	d := api.Call{Client: 256, Seq: 1, Cmd: balance(t, 1), To: -1}
	refuses(t, "one number twice", twoAccounts(), []api.Call{c, d}, api.ErrAuditTwice, 1)
}

func TestExample6(t *testing.T) {
	calls := ran(t, twoAccounts(), []int{1, 0},
		api.Call{Client: 257, Seq: 1, Cmd: balance(t, 2), From: 0, To: 1, Stamp: 5},
		api.Call{Client: 256, Seq: 1, Cmd: move(t, 1, 2, 10), From: 2, To: 3, Stamp: 5})
	noOrder(t, "told ahead of its time", twoAccounts(), calls)
	isFault(t, "[1 0]", audit.Explains(twoAccounts(), calls, []int{1, 0}), api.ErrAuditEarly, 0)
	isFault(t, "[0]", audit.Explains(twoAccounts(), calls, []int{0}), api.ErrAuditAnswer, 0)

	calls = ran(t, twoAccounts(), []int{0, 1}, calls...)
	isOrder(t, "told in time", twoAccounts(), calls, 0, 1)
	isFault(t, "[0 0]", audit.Explains(twoAccounts(), calls, []int{0, 0}), api.ErrAuditPlace, 1)
	isFault(t, "[0]", audit.Explains(twoAccounts(), calls, []int{0}), api.ErrAuditLeft, 1)
}
