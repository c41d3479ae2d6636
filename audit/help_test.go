package audit_test

import (
	"bytes"
	"errors"
	"iter"
	"reflect"
	"slices"
	"testing"

	"quorum/api"
	"quorum/audit"
	"quorum/deal"
	"quorum/session"
)

const most = 1<<64 - 1

// twoAccounts are those of the chapter's examples.
func twoAccounts() []api.Account {
	return []api.Account{{ID: 1, Owner: 256, Balance: 100, Cap: 1000}, {ID: 2, Owner: 257, Cap: 1000}}
}

func packed(t testing.TB, c api.Cmd) []byte {
	t.Helper()
	b, err := deal.Pack(c)
	if err != nil {
		t.Fatalf("Pack(%v): %v", c, err)
	}
	return b
}

// move gives the command that pays from an account to another.
func move(t testing.TB, from, to, amount uint64) []byte {
	t.Helper()
	return packed(t, api.Cmd{Verb: api.VTransfer, Acct: from, To: to, Amount: amount})
}

// balance gives the command that asks for the balance of an account.
func balance(t testing.TB, acct uint64) []byte {
	t.Helper()
	return packed(t, api.Cmd{Verb: api.VBalance, Acct: acct})
}

// begun gives a machine with these accounts.
func begun(t testing.TB, accounts []api.Account) *session.Machine {
	t.Helper()
	m, err := session.New(accounts)
	if err != nil {
		t.Fatalf("New(%v): %v", accounts, err)
	}
	return m
}

// batch is the one that holds a call's request alone.
func batch(c api.Call) api.Batch {
	return api.Batch{Stamp: c.Stamp, Reqs: []api.Request{{Client: c.Client, Seq: c.Seq, Cmd: c.Cmd}}}
}

// ran has a machine run these calls in that order of places, and gives the calls with what it answers. Calls whose To is -1 get no answer.
func ran(t testing.TB, accounts []api.Account, order []int, calls ...api.Call) []api.Call {
	t.Helper()
	m := begun(t, accounts)
	calls = slices.Clone(calls)
	for _, place := range order {
		c := &calls[place]
		replies, err := m.Batch(batch(*c))
		if err != nil || c.To >= 0 && len(replies) != 1 {
			t.Fatalf("call %d: %v %v", place, replies, err)
		}
		if c.To >= 0 {
			c.Stamp, c.Code, c.Data = replies[0].Stamp, replies[0].Code, replies[0].Data
		}
	}
	return calls
}

// same tells whether two things are the same, nil being another thing than empty.
func same(a, b any) bool { return reflect.DeepEqual(a, b) }

// isFault wants a fault of this layer with just that number and place.
func isFault(t testing.TB, what string, err error, why api.Errno, at int) {
	t.Helper()
	f, ok := err.(*api.Fault)
	if !ok || f == nil || f.Layer != "audit" || f.At != at || f.Err != error(why) || !errors.Is(err, why) {
		t.Errorf("%s: %v, want %d at %d", what, err, why, at)
	}
}

// isOrder wants Check to give just that order, and Explains to take it.
func isOrder(t testing.TB, what string, accounts []api.Account, calls []api.Call, want ...int) {
	t.Helper()
	got, err := audit.Check(accounts, calls)
	if err != nil || !same(got, want) {
		t.Errorf("%s: Check: %v %v, want %v", what, got, err, want)
	}
	if err := audit.Explains(accounts, calls, want); err != nil {
		t.Errorf("%s: Explains(%v): %v", what, want, err)
	}
}

// noOrder wants Check to find none.
func noOrder(t testing.TB, what string, accounts []api.Account, calls []api.Call) {
	t.Helper()
	got, err := audit.Check(accounts, calls)
	if got != nil {
		t.Errorf("%s: Check: %v beside a refusal", what, got)
	}
	isFault(t, what, err, api.ErrAuditOrder, 0)
}

// refuses wants both calls to refuse so, whatever the order.
func refuses(t testing.TB, what string, accounts []api.Account, calls []api.Call, why api.Errno, at int) {
	t.Helper()
	order, err := audit.Check(accounts, calls)
	isFault(t, what+", Check", err, why, at)
	if order != nil {
		t.Errorf("%s: Check: %v beside a refusal", what, order)
	}
	for _, order := range [][]int{nil, {0}, {-1, 99}} {
		isFault(t, what+", Explains", audit.Explains(accounts, calls, order), why, at)
	}
}

// explains says by the chapter's four conditions, one after the other, whether an order explains a history.
func explains(t testing.TB, accounts []api.Account, calls []api.Call, order []int) bool {
	t.Helper()
	m := begun(t, accounts)
	good := true
	for a, c := range calls {
		at := slices.Index(order, a)
		if c.To >= 0 && at < 0 {
			good = false
		}
		for b, d := range calls {
			if behind := slices.Index(order, b); c.To >= 0 && c.To < d.From && behind >= 0 && (at < 0 || at > behind) {
				good = false
			}
		}
	}
	for at, place := range order {
		c := calls[place]
		replies, err := m.Batch(batch(c))
		if err != nil {
			t.Fatal(err)
		}
		if c.To >= 0 && (len(replies) != 1 || !alike(replies[0], c)) {
			good = false
		}
		if at > 0 && c.Stamp < calls[order[at-1]].Stamp {
			good = false
		}
	}
	return good
}

// alike tells whether a reply is the answer of a call.
func alike(r api.Reply, c api.Call) bool {
	return r.Client == c.Client && r.Seq == c.Seq && r.Stamp == c.Stamp && r.Code == c.Code && bytes.Equal(r.Data, c.Data)
}

// orders gives all lists of the numbers from 0 to n-1, none twice, the first one first.
func orders(n int) iter.Seq[[]int] {
	return func(yield func([]int) bool) { longer(n, nil, yield) }
}

// longer gives a list, and behind it all that begin with it.
func longer(n int, list []int, yield func([]int) bool) bool {
	if !yield(list) {
		return false
	}
	for place := range n {
		if !slices.Contains(list, place) && !longer(n, append(slices.Clone(list), place), yield) {
			return false
		}
	}
	return true
}

// first goes through all orders, and gives the first that explains the history.
func first(t testing.TB, accounts []api.Account, calls []api.Call) ([]int, bool) {
	t.Helper()
	for order := range orders(len(calls)) {
		if explains(t, accounts, calls, order) {
			return order, true
		}
	}
	return nil, false
}

// dice gives numbers that look like any, the same ones in every run.
type dice struct{ state uint64 }

func (d *dice) next() uint64 {
	d.state = d.state*6364136223846793005 + 1442695040888963407
	return d.state ^ d.state>>29
}

// below gives a number from 0 to n-1.
func (d *dice) below(n int) int { return int(d.next() >> 3 % uint64(n)) }

func one[E any](d *dice, list ...E) E { return list[d.below(len(list))] }

// shuffled gives the numbers from 0 to n-1 in any order.
func (d *dice) shuffled(n int) []int {
	var list []int
	for i := range n {
		list = slices.Insert(list, d.below(i+1), i)
	}
	return list
}
