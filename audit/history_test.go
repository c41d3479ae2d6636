package audit_test

import (
	"slices"
	"testing"

	"quorum/api"
)

// threeAccounts are poor and small, so that what comes of a command hangs on those ahead of it.
func threeAccounts() []api.Account {
	return []api.Account{{ID: 1, Owner: 256, Balance: 20, Cap: 25}, {ID: 2, Owner: 257, Balance: 5, Cap: 20}, {ID: 3, Owner: 258, Cap: 12}}
}

// asking is a client's command.
type asking struct {
	client uint64
	cmd    []byte
}

// askings are commands that come to one thing or another, as the order has it.
func askings(t testing.TB) []asking {
	t.Helper()
	list := []asking{{256, nil}, {259, []byte{99}}, {258, packed(t, api.Cmd{Verb: api.VLook, Deal: 7})}}
	for client := uint64(256); client < 259; client++ {
		acct := client - 255
		list = append(list, asking{client, balance(t, acct)}, asking{client, balance(t, acct)}, asking{client, move(t, acct, acct%3+1, 3)}, asking{client, move(t, acct, (acct+1)%3+1, 8)})
	}
	open := api.Cmd{Verb: api.VOpen, Deal: 7, Acct: 1, To: 2, Arbiter: 3, Amount: 6, Due: 4, Terms: "on release { require caller == buyer, 7; pay 2 to arbiter; }"}
	return append(list,
		asking{256, packed(t, open)}, asking{256, packed(t, api.Cmd{Verb: api.VFund, Deal: 7})},
		asking{256, packed(t, api.Cmd{Verb: api.VRelease, Deal: 7})}, asking{257, packed(t, api.Cmd{Verb: api.VRelease, Deal: 7})},
		asking{258, packed(t, api.Cmd{Verb: api.VExpire, Deal: 7})})
}

// history draws n calls as a machine has answered them, and the order in which it ran them. Each ran at a moment within its time; without an answer it may not have run.
func (d *dice) history(t testing.TB, n int) ([]api.Call, []int) {
	t.Helper()
	m := begun(t, threeAccounts())
	calls := make([]api.Call, n)
	var order []int
	stamp := uint64(d.below(3))
	last := map[uint64]uint64{}
	for i, place := range d.shuffled(n) {
		ask := one(d, askings(t)...)
		last[ask.client] += uint64(1 + d.below(2))
		stamp += one(d, uint64(0), 0, 0, 1, 2)
		c := api.Call{Client: ask.client, Seq: last[ask.client], Cmd: ask.cmd, From: max(0, 4*i-d.below(14)), To: 4*i + d.below(14), Stamp: stamp}
		ends, runs := d.below(4) > 0, d.below(2) == 0
		if ends || runs {
			replies, err := m.Batch(batch(c))
			if err != nil || len(replies) != 1 {
				t.Fatalf("%v: %v %v", c, replies, err)
			}
			c.Code, c.Data = replies[0].Code, replies[0].Data
			order = append(order, place)
		}
		if !ends {
			c.To, c.Code, c.Data = -1, 0, nil
		}
		calls[place] = c
	}
	return calls, order
}

// spoilt gives a history with one thing turned, that may be in a history all the same.
func (d *dice) spoilt(calls []api.Call) []api.Call {
	calls = slices.Clone(calls)
	c, e := &calls[d.below(len(calls))], &calls[d.below(len(calls))]
	switch d.below(7) {
	case 0:
		if len(c.Data) > 0 {
			c.Data = slices.Clone(c.Data)
			c.Data[7] ^= byte(1 + d.below(7))
		}
	case 1:
		if c.To >= 0 {
			c.Code = one(d, api.OK, api.ErrLedgerFunds, api.ErrLedgerCap, api.ErrDealPhase)
		}
	case 2:
		c.Stamp = uint64(d.below(4))
	case 3:
		c.From = d.below(30)
		if c.To >= 0 {
			c.To = max(c.To, c.From)
		}
	case 4:
		if c.To >= 0 {
			c.From = d.below(c.To + 1)
			c.To = c.From + d.below(4)
		}
	case 5:
		if c.To >= 0 && e.To >= 0 {
			c.Code, e.Code, c.Data, e.Data = e.Code, c.Code, e.Data, c.Data
		}
	default:
		c.Seq += 100
	}
	if c.To == -1 {
		c.Code, c.Data = 0, nil
	}
	return calls
}
