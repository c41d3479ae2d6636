package audit_test

import (
	"errors"
	"slices"
	"testing"

	"quorum/api"
	"quorum/audit"
)

// Calls one behind the other, each with its answer, are explained by the order of their times.
func TestP17_5OneBehindTheOther(t *testing.T) {
	d := &dice{175}
	for range 300 {
		calls, ahead := d.history(t, d.below(api.MaxCalls+1))
		now := d.below(3)
		var apart []api.Call // the calls that ran, in the order of their times
		for _, place := range ahead {
			c := calls[place]
			c.From = now
			c.To = now + d.below(3)
			now = c.To + 1 + d.below(2)
			apart = append(apart, c)
		}
		list := make([]api.Call, len(apart))
		order := d.shuffled(len(apart))
		for i, place := range order {
			list[place] = apart[i]
		}
		isOrder(t, "one behind the other", threeAccounts(), ran(t, threeAccounts(), order, list...), order...)
		if t.Failed() {
			t.Fatalf("%+v", list)
		}
	}
}

// An earlier From, a later To, and one more call without an answer at the list's end take nothing away.
func TestP17_5Wider(t *testing.T) {
	d := &dice{1755}
	for range 400 {
		calls, order := d.history(t, d.below(api.MaxCalls))
		explained(t, calls, order)
		best, err := audit.Check(threeAccounts(), calls)
		if err != nil {
			t.Fatalf("%v: %+v", err, calls)
		}
		for i := range calls {
			c := &calls[i]
			c.From = d.below(c.From + 1)
			if c.To >= 0 {
				c.To = one(d, c.To, c.To+d.below(20), 1<<63-1)
			}
		}
		ask := one(d, askings(t)...)
		calls = append(calls, api.Call{Client: ask.client, Seq: one(d, uint64(50), most), Cmd: ask.cmd, From: d.below(40), To: -1, Stamp: uint64(d.below(6))})
		explained(t, calls, order)
		explained(t, calls, best)
		now, err := audit.Check(threeAccounts(), calls)
		if err != nil || slices.Compare(now, best) > 0 {
			t.Fatalf("Check: %v %v, was %v: %+v", now, err, best, calls)
		}
	}
	nine := append(eight(), api.Call{Client: 400, Seq: 1, To: -1})
	refuses(t, "where the list is taken", twoAccounts(), nine, api.ErrAuditMany, 0)
}

// work tells how much a call has to do, by the pieces of memory that it asks for.
func work(call func()) float64 { return testing.AllocsPerRun(1, call) }

// hopeless gives eight calls of eight clients of which the last one has an answer that no machine gives.
func hopeless(cmd func(i uint64) []byte) []api.Call {
	var calls []api.Call
	for i := range uint64(api.MaxCalls) {
		calls = append(calls, api.Call{Client: 300 + i, Seq: 1, Cmd: cmd(i), To: -1})
	}
	calls[7].To, calls[7].Code = 9, 999
	return calls
}

// manyAccounts gives account i+1 to client 300+i, and all pay into the last one, which takes seven only.
func manyAccounts() []api.Account {
	var list []api.Account
	for i := range uint64(api.MaxCalls) {
		list = append(list, api.Account{ID: i + 1, Owner: 300 + i, Balance: 9, Cap: 9})
	}
	return append(list, api.Account{ID: 9, Owner: 299, Cap: 7})
}

// Eight payments each of which is seen to go well where only seven can: whatever seven come first, the eighth fails.
func paying(t testing.TB) []api.Call {
	t.Helper()
	var calls []api.Call
	for i := range uint64(api.MaxCalls) {
		calls = append(calls, api.Call{Client: 300 + i, Seq: 1, Cmd: move(t, i+1, 9, 1), To: 9})
	}
	return calls
}

// To find that no order explains a history is no more work than to hold each of its orders against it.
func TestP17_6NoMoreThanAllOrders(t *testing.T) {
	all := 0
	for range orders(api.MaxCalls) {
		all++
	}
	order := []int{0, 1, 2, 3, 4, 5, 6, 7}
	calls := paying(t)
	var no error
	one := work(func() { audit.Explains(manyAccounts(), calls, order) })
	got := work(func() { _, no = audit.Check(manyAccounts(), calls) })
	isFault(t, "eight payments", no, api.ErrAuditOrder, 0)
	if got > float64(all)*one {
		t.Errorf("all orders are %d of %.0f, Check takes %.0f", all, one, got)
	}
}

// What comes to one machine by many ways is gone into once: with looks alone there are as many machines as sets.
func TestP17_6OneMachineOnce(t *testing.T) {
	looks := hopeless(func(i uint64) []byte { return balance(t, i+1) })
	noOrder(t, "eight looks", manyAccounts(), looks)
	order := []int{0, 1, 2, 3, 4, 5, 6, 7}
	one := work(func() { audit.Explains(manyAccounts(), looks, order) })
	if got := work(func() { audit.Check(manyAccounts(), looks) }); got > 1<<api.MaxCalls*one {
		t.Errorf("an order is %.0f, Check takes %.0f", one, got)
	}
}

// Nothing that is handed in is changed, the room behind its end included; nothing is kept from call to call.
func TestNothingHandedInIsChanged(t *testing.T) {
	d := &dice{7}
	for range 100 {
		calls, order := d.history(t, 1+d.below(5))
		for i := range calls {
			calls[i].Cmd = append(slices.Clone(calls[i].Cmd), 1, 2, 3)[:len(calls[i].Cmd)]
			calls[i].Data = append(slices.Clone(calls[i].Data), 1, 2, 3)[:len(calls[i].Data)]
		}
		accounts := append(threeAccounts(), api.Account{ID: 77})[:3]
		was, wasAccounts, wasOrder := deep(calls), slices.Clone(accounts[:4]), slices.Clone(order)
		got, err := audit.Check(accounts, calls)
		if no := audit.Explains(accounts, calls, order); err != nil || no != nil {
			t.Fatalf("%v %v", err, no)
		}
		if !same(deep(calls), was) || !same(accounts[:4], wasAccounts) || !slices.Equal(order, wasOrder) {
			t.Fatalf("what was handed in is changed: %+v %v %v", calls, accounts, order)
		}
		want := slices.Clone(got)
		for i := range got[:cap(got)] {
			got[:cap(got)][i] = -7
		}
		if again, err := audit.Check(accounts, calls); err != nil || !slices.Equal(again, want) {
			t.Fatalf("Check once more: %v %v, was %v", again, err, want)
		}
	}
}

// deep gives the calls, their bytes with the room behind them, in new memory.
func deep(calls []api.Call) []api.Call {
	calls = slices.Clone(calls)
	for i := range calls {
		c := &calls[i]
		c.Cmd = slices.Clone(c.Cmd[:cap(c.Cmd)])
		c.Data = slices.Clone(c.Data[:cap(c.Data)])
	}
	return calls
}

// A fault that was handed out may be written over: the next one is new.
func TestFaultsAreNew(t *testing.T) {
	calls := paying(t)[:1]
	calls[0].Code = 999
	_, err := audit.Check(manyAccounts(), calls)
	var f *api.Fault
	if !errors.As(err, &f) {
		t.Fatal(err)
	}
	*f = api.Fault{}
	noOrder(t, "once more", manyAccounts(), calls)
}
