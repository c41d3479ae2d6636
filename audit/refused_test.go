package audit_test

import (
	"errors"
	"slices"
	"strconv"
	"testing"

	"quorum/api"
	"quorum/audit"
	"quorum/session"
)

// eight calls without an answer, each of which may be in a history.
func eight() []api.Call {
	var calls []api.Call
	for i := range uint64(api.MaxCalls) {
		calls = append(calls, api.Call{Client: 256 + i%3, Seq: 1 + i/3, To: -1})
	}
	return calls
}

// wrongs are the ways in which a call may not be, each alone.
func wrongs() map[string]func(c *api.Call) {
	return map[string]func(c *api.Call){
		"client 0":                 func(c *api.Call) { c.Client = 0 },
		"client 255":               func(c *api.Call) { c.Client = 255 },
		"number 0":                 func(c *api.Call) { c.Seq = 0 },
		"a long command":           func(c *api.Call) { c.Cmd = make([]byte, 701) },
		"long data":                func(c *api.Call) { c.To, c.Data = 0, make([]byte, 257) },
		"a late stamp":             func(c *api.Call) { c.Stamp = 1<<40 + 1 },
		"a stamp past all":         func(c *api.Call) { c.Stamp = most },
		"begun at -1":              func(c *api.Call) { c.From = -1 },
		"begun at -1, ended":       func(c *api.Call) { c.From, c.To = -1, 3 },
		"begun and ended at -2":    func(c *api.Call) { c.From, c.To = -2, -2 },
		"ended at -2":              func(c *api.Call) { c.To = -2 },
		"ended far below":          func(c *api.Call) { c.To = -1 << 63 },
		"ended ahead":              func(c *api.Call) { c.From, c.To = 1, 0 },
		"ended far ahead":          func(c *api.Call) { c.From, c.To = 1<<63-1, 1<<63-2 },
		"code -1":                  func(c *api.Call) { c.To, c.Code = 0, -1 },
		"code -1 without answer":   func(c *api.Call) { c.Code = -1 },
		"a code without answer":    func(c *api.Call) { c.Code = 1 },
		"data without answer":      func(c *api.Call) { c.Data = []byte{0} },
		"all without answer":       func(c *api.Call) { c.Code, c.Data = api.ErrDealRole, make([]byte, 8) },
		"nothing of it is right":   func(c *api.Call) { *c = api.Call{Stamp: most, From: -1, To: -2, Code: -1} },
		"a call all of whose is 0": func(c *api.Call) { *c = api.Call{} },
	}
}

func TestP17_1Many(t *testing.T) {
	nine := append(eight(), api.Call{Client: 300, Seq: 1, To: -1})
	refuses(t, "nine", twoAccounts(), nine, api.ErrAuditMany, 0)
	refuses(t, "a hundred", twoAccounts(), make([]api.Call, 100), api.ErrAuditMany, 0)
	isOrder(t, "eight", twoAccounts(), eight())
}

func TestP17_1Call(t *testing.T) {
	for what, turn := range wrongs() {
		for at := range api.MaxCalls {
			calls := eight()
			turn(&calls[at])
			refuses(t, what+" at "+strconv.Itoa(at), twoAccounts(), calls, api.ErrAuditCall, at)
			for behind := at + 1; behind < api.MaxCalls; behind++ { // the first one counts
				turn(&calls[behind])
			}
			refuses(t, what+" from "+strconv.Itoa(at)+" on", twoAccounts(), calls, api.ErrAuditCall, at)
		}
	}
}

// What may just be in a history is refused by none of the looks.
func TestP17_1MayBe(t *testing.T) {
	for what, c := range map[string]api.Call{
		"the first client":   {Client: 256, Seq: 1, To: -1},
		"the last client":    {Client: most, Seq: most, To: -1},
		"the longest":        {Client: 256, Seq: 1, Cmd: make([]byte, 700), To: 0, Code: 1, Data: make([]byte, 256)},
		"the last stamp":     {Client: 256, Seq: 1, Stamp: 1 << 40, To: -1},
		"ended as it begins": {Client: 256, Seq: 1, From: 7, To: 7, Code: 1},
		"the last moment":    {Client: 256, Seq: 1, From: 1<<63 - 1, To: 1<<63 - 1, Code: 1},
		"begun late":         {Client: 256, Seq: 1, From: 1<<63 - 1, To: -1},
		"the greatest code":  {Client: 256, Seq: 1, To: 0, Code: 1<<63 - 1},
		"empty lists":        {Client: 256, Seq: 1, Cmd: []byte{}, To: -1, Data: []byte{}},
	} {
		calls := append(eight()[1:], c)
		if c.To == -1 {
			isOrder(t, what, twoAccounts(), calls)
			continue
		}
		noOrder(t, what, twoAccounts(), calls) // no command is answered with these codes
		isFault(t, what, audit.Explains(twoAccounts(), calls, nil), api.ErrAuditLeft, 0)
		isFault(t, what, audit.Explains(twoAccounts(), calls, []int{7}), api.ErrAuditAnswer, 0)
	}
}

func TestP17_1Twice(t *testing.T) {
	for at := 1; at < api.MaxCalls; at++ {
		for ahead := range at {
			calls := eight()
			calls[at] = api.Call{Client: calls[ahead].Client, Seq: calls[ahead].Seq, Cmd: []byte{1, 2}, From: 3, To: 4, Stamp: 9, Code: 100}
			refuses(t, "twice", twoAccounts(), calls, api.ErrAuditTwice, at)
			for behind := at + 1; behind < api.MaxCalls; behind++ { // the first one counts
				calls[behind] = calls[ahead]
			}
			refuses(t, "more than twice", twoAccounts(), calls, api.ErrAuditTwice, at)
		}
	}
	isOrder(t, "one client, other numbers; one number, other clients", twoAccounts(), []api.Call{
		{Client: 256, Seq: 1, To: -1}, {Client: 256, Seq: 2, To: -1}, {Client: 257, Seq: 1, To: -1}, {Client: 257, Seq: 256, To: -1},
	})
}

// badAccounts are accounts that the machine refuses, each for another reason or at another place.
func badAccounts() [][]api.Account {
	return [][]api.Account{
		{{ID: 1, Owner: 256, Balance: 2, Cap: 1}},
		{{ID: 1, Cap: 1}, {ID: 1, Cap: 1}},
		{{ID: 1}, {ID: 2}, {ID: 0}},
		{{ID: 1, Balance: most, Cap: most}, {ID: 2, Balance: 1, Cap: 1}},
		make([]api.Account, api.MaxAccts+1),
	}
}

// isLower wants this layer's fault at 0 with the very fault of layer 7 behind it.
func isLower(t *testing.T, err, lower error) {
	t.Helper()
	f, ok := err.(*api.Fault)
	if !ok || f == nil || f.Layer != "audit" || f.At != 0 {
		t.Fatalf("%v, want a fault of audit at 0", err)
	}
	g, ok := f.Err.(*api.Fault)
	if !ok || g.Layer != "session" || !same(error(g), lower) {
		t.Errorf("behind it %v, want %v", f.Err, lower)
	}
	var outer *api.Fault
	if !errors.As(err, &outer) || outer != f {
		t.Errorf("%v: errors.As finds %v", err, outer)
	}
	var number api.Errno
	if !errors.As(lower, &number) || !errors.Is(err, number) {
		t.Errorf("%v: errors.Is does not find %d", err, number)
	}
}

func TestP17_1Accounts(t *testing.T) {
	for _, accounts := range badAccounts() {
		_, lower := session.New(accounts)
		for _, calls := range [][]api.Call{nil, eight()} {
			order, err := audit.Check(accounts, calls)
			isLower(t, err, lower)
			if order != nil {
				t.Errorf("%v beside a refusal", order)
			}
			isLower(t, audit.Explains(accounts, calls, nil), lower)
			isLower(t, audit.Explains(accounts, calls, []int{-1}), lower)
		}
	}
	isOrder(t, "no accounts", nil, eight())
	isOrder(t, "no accounts", []api.Account{}, nil)
}

// Of several reasons the one that is named first.
func TestP17_1Order(t *testing.T) {
	for _, accounts := range append(badAccounts(), twoAccounts()) {
		for what, turn := range wrongs() {
			calls := eight()
			calls[1] = calls[0]
			turn(&calls[5])
			refuses(t, what+" behind a call that is there twice", accounts, calls, api.ErrAuditCall, 5)
			refuses(t, what+" in too many calls", accounts, append(calls, calls[2]), api.ErrAuditMany, 0)
		}
		calls := eight()
		calls[6] = calls[2]
		refuses(t, "a call twice", accounts, calls, api.ErrAuditTwice, 6)
		refuses(t, "a call twice in too many", accounts, slices.Concat(calls, calls), api.ErrAuditMany, 0)
	}
}
