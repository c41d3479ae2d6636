package audit_test

import (
	"slices"
	"testing"

	"quorum/api"
	"quorum/audit"
)

func TestP17_3NoCalls(t *testing.T) {
	isOrder(t, "nil", twoAccounts(), nil)
	isOrder(t, "empty", twoAccounts(), []api.Call{})
	isOrder(t, "nothing at all", nil, nil)
	isOrder(t, "no answers", twoAccounts(), eight())
}

// The first order holds calls without an answer wherever they do no harm, but not at its end.
func TestP17_3First(t *testing.T) {
	silent := api.Call{Client: 300, Seq: 1, To: -1}
	told := api.Call{Client: 301, Seq: 1, To: 9, Code: api.ErrDealCommand}
	with := func(c api.Call, client uint64) api.Call {
		c.Client = client
		return c
	}
	isOrder(t, "ahead", nil, []api.Call{silent, told}, 0, 1)
	isOrder(t, "behind", nil, []api.Call{told, silent}, 0)
	isOrder(t, "between", nil, []api.Call{told, silent, with(told, 302)}, 0, 1, 2)
	isOrder(t, "all around", nil, []api.Call{silent, told, with(silent, 302), with(told, 303), with(silent, 304)}, 0, 1, 2, 3)
	early := []api.Call{with(told, 302), with(silent, 303), told}
	early[0].From, early[0].To = 10, 12
	isOrder(t, "one that must wait", nil, early, 1, 2, 0)
	late := []api.Call{with(silent, 302), told, with(told, 303)}
	late[0].Stamp = 4
	isOrder(t, "one without an answer that ran too late", nil, late, 1, 2)
	late[2].Stamp = 4
	isOrder(t, "one without an answer that ran as the last did", nil, late, 1, 0, 2)
}

// One set of calls leads on with one machine, and not with another: what has failed is told by both.
func TestP17_3TwoMachines(t *testing.T) {
	calls := []api.Call{
		{Client: 256, Seq: 1, Cmd: move(t, 1, 2, 60), To: -1},
		{Client: 258, Seq: 1, Cmd: move(t, 3, 2, 50), To: -1},
		{Client: 257, Seq: 1, Cmd: balance(t, 2), To: 9},
	}
	accounts := []api.Account{{ID: 1, Owner: 256, Balance: 100, Cap: 100}, {ID: 2, Owner: 257, Cap: 100}, {ID: 3, Owner: 258, Balance: 100, Cap: 100}}
	calls = ran(t, accounts, []int{1, 2}, calls...) // told 50: 60 more is then above the cap
	isOrder(t, "the one that fails behind", accounts, calls, 1, 0, 2)
	calls = ran(t, accounts, []int{0, 2}, calls...)
	isOrder(t, "the other one behind", accounts, calls, 0, 1, 2)
	calls = ran(t, accounts, []int{2}, calls...)
	isOrder(t, "neither", accounts, calls, 2)
	calls[2].Data[7] = 110
	noOrder(t, "both", accounts, calls)
}

// A tail of eight calls: only the last order of all explains them.
func TestP17_3TheLastOrder(t *testing.T) {
	accounts := []api.Account{{ID: 1, Owner: 300, Balance: 100, Cap: 100}, {ID: 2, Owner: 301, Cap: 100}}
	var calls []api.Call
	var back []int
	for i := range api.MaxCalls {
		calls = append(calls, api.Call{Client: 300, Seq: uint64(api.MaxCalls - i), Cmd: move(t, 1, 2, uint64(1+i)), To: 9, Stamp: 3})
		back = append([]int{i}, back...)
	}
	isOrder(t, "eight", accounts, ran(t, accounts, back, calls...), back...)
}

// Any histories, right ones and spoilt ones, beside all orders gone through one by one.
func TestP17_3BesideAllOrders(t *testing.T) {
	d := &dice{17}
	found, none, mixed, silent, left := 0, 0, 0, 0, 0
	for round := range 1500 {
		calls, _ := d.history(t, 1+d.below(4+round%2))
		for range d.below(4) {
			calls = d.spoilt(calls)
		}
		want, is := first(t, threeAccounts(), calls)
		if !is {
			noOrder(t, "a history", threeAccounts(), calls)
			none++
			continue
		}
		isOrder(t, "a history", threeAccounts(), calls, want...)
		found++
		if !slices.IsSorted(want) {
			mixed++
		}
		for place, c := range calls {
			if c.To < 0 && slices.Contains(want, place) {
				silent++
			} else if c.To < 0 && place < len(want) {
				left++
			}
		}
		if t.Failed() {
			t.Fatalf("%+v", calls)
		}
	}
	if found < 300 || none < 300 || mixed < 200 || silent < 100 || left < 20 {
		t.Errorf("%d found, %d without one, %d out of the list's order, %d without an answer in the order, %d not", found, none, mixed, silent, left)
	}
}

// Long histories, beside all orders that do not go wrong on their way.
func TestP17_3LongHistories(t *testing.T) {
	d := &dice{173}
	found, none := 0, 0
	for range 400 {
		calls, _ := d.history(t, 6+d.below(3))
		for range d.below(4) {
			calls = d.spoilt(calls)
		}
		if want, is := firstBehind(t, calls, nil); is {
			isOrder(t, "a long history", threeAccounts(), calls, want...)
			found++
		} else {
			noOrder(t, "a long history", threeAccounts(), calls)
			none++
		}
		if t.Failed() {
			t.Fatalf("%+v", calls)
		}
	}
	if found < 100 || none < 100 {
		t.Errorf("%d found, %d without one", found, none)
	}
}

// firstBehind gives the first order with this beginning that explains a history.
func firstBehind(t testing.TB, calls []api.Call, order []int) ([]int, bool) {
	t.Helper()
	switch _, why := judged(t, calls, order); why {
	case api.OK:
		return order, true
	case api.ErrAuditLeft:
	default:
		return nil, false
	}
	for place := range calls {
		if whole, is := firstBehind(t, calls, append(slices.Clone(order), place)); is {
			return whole, true
		}
	}
	return nil, false
}

// Any orders, and what the chapter says of them place by place.
func TestP17_4AnyOrders(t *testing.T) {
	d := &dice{1704}
	seen := map[api.Errno]int{}
	for range 1500 {
		n := 1 + d.below(5)
		calls, truth := d.history(t, n)
		if d.below(2) == 0 {
			calls = d.spoilt(calls)
		}
		best, no := audit.Check(threeAccounts(), calls)
		if no == nil {
			explained(t, calls, best)
		}
		for range 8 {
			order := d.order(n, truth)
			at, why := judged(t, calls, order)
			seen[why]++
			err := audit.Explains(threeAccounts(), calls, order)
			if why != api.OK {
				isFault(t, "an order", err, why, at)
				continue
			}
			if err != nil || no != nil || slices.Compare(best, order) > 0 || !explains(t, threeAccounts(), calls, order) {
				t.Fatalf("Explains(%v): %v, and Check: %v %v: %+v", order, err, best, no, calls)
			}
		}
		if t.Failed() {
			t.Fatalf("%+v", calls)
		}
	}
	for _, why := range []api.Errno{api.OK, api.ErrAuditPlace, api.ErrAuditEarly, api.ErrAuditStamp, api.ErrAuditAnswer, api.ErrAuditLeft} {
		if seen[why] < 200 {
			t.Errorf("only %d orders came to %d: %v", seen[why], why, seen)
		}
	}
}

// order draws one: the one in which the calls ran, that with a change, or any.
func (d *dice) order(n int, truth []int) []int {
	order := slices.Clone(truth)
	switch d.below(5) {
	case 0:
		return order
	case 1:
		if len(order) > 1 {
			i, j := d.below(len(order)), d.below(len(order))
			order[i], order[j] = order[j], order[i]
		}
		return order
	case 2:
		return order[:d.below(len(order)+1)]
	case 3:
		return slices.Insert(order, d.below(len(order)+1), one(d, -1, n, d.below(n), d.below(n)))
	}
	return d.shuffled(n)
}

// judged says of an order, place by place, where it goes wrong first and why.
func judged(t testing.TB, calls []api.Call, order []int) (int, api.Errno) {
	t.Helper()
	m := begun(t, threeAccounts())
	for at, place := range order {
		ahead := order[:at]
		if place < 0 || place >= len(calls) || slices.Contains(ahead, place) {
			return at, 344
		}
		c := calls[place]
		for other, e := range calls {
			if e.To != -1 && e.To < c.From && !slices.Contains(ahead, other) {
				return at, 345
			}
		}
		if at > 0 && c.Stamp < calls[order[at-1]].Stamp {
			return at, 348
		}
		if replies, _ := m.Batch(batch(c)); c.To != -1 && (len(replies) != 1 || !alike(replies[0], c)) {
			return at, 346
		}
	}
	for place, c := range calls {
		if c.To != -1 && !slices.Contains(order, place) {
			return len(order), 347
		}
	}
	return 0, 0
}

// explained wants Explains, and the chapter's conditions, to take an order.
func explained(t testing.TB, calls []api.Call, order []int) {
	t.Helper()
	if err := audit.Explains(threeAccounts(), calls, order); err != nil || !explains(t, threeAccounts(), calls, order) {
		t.Fatalf("Explains(%v): %v: %+v", order, err, calls)
	}
}
