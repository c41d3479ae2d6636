package deal_test

import (
	"math/big"
	"slices"
	"unicode/utf8"

	"quorum/api"
	"quorum/ledger"
	"quorum/terms"
)

// plain is the house told once more, as plainly as can be: its image, and for each command a new image beside the old one, so that a refusal has nothing to take back. Rules are carried out by layer 3 itself, not by compiled code.
type plain struct{ api.HouseImage }

// book gives the ledger as it is.
func (p plain) book() *ledger.Ledger {
	l, err := ledger.Restore(p.Book)
	if err != nil {
		panic(err)
	}
	return l
}

func (p plain) find(id uint64) int {
	return slices.IndexFunc(p.Deals, func(d api.Deal) bool { return d.ID == id })
}

func (p plain) owner(acct uint64) (uint64, bool) {
	for _, a := range p.Book.Accounts {
		if a.ID == acct {
			return a.Owner, true
		}
	}
	return 0, false
}

// role is 0 for who is no party.
func (p plain) role(d api.Deal, client uint64) uint64 {
	for i, acct := range []uint64{d.Buyer, d.Seller, d.Arbiter} {
		if who, there := p.owner(acct); there && who == client {
			return uint64(i) + 1
		}
	}
	return 0
}

func (p plain) held(id uint64) uint64 {
	for _, h := range p.Book.Holds {
		if h.ID == id {
			return h.Amount
		}
	}
	return 0
}

func isAlive(d api.Deal) bool { return d.Phase >= 1 && d.Phase <= 3 }

// do tells what a command comes to, and the house behind it.
func (p plain) do(client uint64, c api.Cmd, now uint64) (api.Errno, []uint64, plain) {
	after := plain{twin(p.HouseImage)}
	l := p.book()
	code, told := api.OK, []uint64(nil)
	switch c.Verb {
	case api.VEnrol:
		code = l.Create(c.Acct, client, c.Amount)
	case api.VClose, api.VTransfer, api.VBalance:
		code, told = p.account(l, client, c)
	case api.VOpen:
		code, told = after.openDeal(l, client, c, now)
	case api.VCallOff, api.VLook:
		code, told = after.unfunded(client, c)
	default:
		code, told = after.action(l, client, c, now)
	}
	if code != api.OK {
		return code, told, p
	}
	after.Book = l.Image()
	return code, told, after
}

func (p plain) account(l *ledger.Ledger, client uint64, c api.Cmd) (api.Errno, []uint64) {
	a, code := l.Account(c.Acct)
	switch {
	case code != api.OK:
		return code, nil
	case a.Owner != client:
		return api.ErrDealRole, nil
	case c.Verb == api.VBalance:
		return api.OK, []uint64{a.Balance, a.Cap}
	case c.Verb == api.VTransfer:
		return l.Move(c.Acct, c.To, c.Amount), nil
	}
	for _, d := range p.Deals {
		if isAlive(d) && (d.Buyer == c.Acct || d.Seller == c.Acct || d.Arbiter == c.Acct) {
			return api.ErrLedgerBusy, nil
		}
	}
	return l.Close(c.Acct), nil
}

func (p *plain) openDeal(l *ledger.Ledger, client uint64, c api.Cmd, now uint64) (api.Errno, []uint64) {
	if c.Deal == 0 {
		return api.ErrDealZero, nil
	}
	if p.find(c.Deal) >= 0 {
		return api.ErrDealTaken, nil
	}
	var owners []uint64
	for _, acct := range []uint64{c.Acct, c.To, c.Arbiter} {
		a, code := l.Account(acct)
		if code != api.OK {
			return code, nil
		}
		owners = append(owners, a.Owner)
	}
	if c.Acct == c.To || c.Acct == c.Arbiter || c.To == c.Arbiter || owners[0] == owners[1] || owners[0] == owners[2] || owners[1] == owners[2] {
		return api.ErrDealParty, nil
	}
	if owners[0] != client {
		return api.ErrDealRole, nil
	}
	if c.Amount == 0 {
		return api.ErrDealAmount, nil
	}
	if now >= c.Due {
		return api.ErrDealDue, nil
	}
	if c.Terms != "" {
		tree, err := terms.Parse(c.Terms)
		if err == nil {
			err = terms.Check(tree)
		}
		if err != nil {
			f := err.(*api.Fault)
			return api.ErrDealTerms, []uint64{uint64(f.Err.(api.Errno)), uint64(f.At)}
		}
	}
	if len(p.Deals) == 32 {
		ended := slices.DeleteFunc(slices.Clone(p.Deals), isAlive)
		if len(ended) == 0 {
			return api.ErrDealFull, nil
		}
		first := slices.MinFunc(ended, func(a, b api.Deal) int { return int(a.End) - int(b.End) })
		p.Deals = slices.DeleteFunc(p.Deals, func(d api.Deal) bool { return d.ID == first.ID })
	}
	p.Deals = append(p.Deals, api.Deal{ID: c.Deal, Buyer: c.Acct, Seller: c.To, Arbiter: c.Arbiter, Amount: c.Amount, Opened: now, Due: c.Due, Phase: 1, Terms: c.Terms})
	slices.SortFunc(p.Deals, func(a, b api.Deal) int {
		if a.ID < b.ID {
			return -1
		}
		return 1
	})
	return api.OK, nil
}

func (p *plain) unfunded(client uint64, c api.Cmd) (api.Errno, []uint64) {
	i := p.find(c.Deal)
	if i < 0 {
		return api.ErrDealUnknown, nil
	}
	d := &p.Deals[i]
	if p.role(*d, client) == 0 {
		return api.ErrDealRole, nil
	}
	if c.Verb == api.VLook {
		return api.OK, []uint64{uint64(d.Phase), d.Amount, p.held(d.ID), d.Opened, d.Due, d.Paid[0], d.Paid[1], d.Paid[2]}
	}
	if d.Phase != 1 {
		return api.ErrDealPhase, nil
	}
	if p.Ends == last {
		return api.ErrDealFull, nil
	}
	p.Ends++
	d.Phase, d.End = 8, p.Ends
	return api.OK, nil
}

func (p *plain) action(l *ledger.Ledger, client uint64, c api.Cmd, now uint64) (api.Errno, []uint64) {
	i := p.find(c.Deal)
	if i < 0 {
		return api.ErrDealUnknown, nil
	}
	d := &p.Deals[i]
	row := theTable[c.Verb]
	role := p.role(*d, client)
	event := slices.Index(six, c.Verb)
	tree, ruled := ruleOf(d.Terms, event)
	switch {
	case role == 0:
		return api.ErrDealRole, nil
	case !ruled && !slices.Contains(row.who, role):
		return api.ErrDealRole, nil
	case !slices.Contains(row.phases, d.Phase):
		return api.ErrDealPhase, nil
	case c.Verb == api.VExpire && d.Due > now:
		return api.ErrDealDue, nil
	case row.ends && p.Ends == last:
		return api.ErrDealFull, nil
	}
	held := p.held(d.ID)
	if c.Verb == api.VFund {
		if code := l.Hold(d.ID, d.Buyer, d.Amount); code != api.OK {
			return code, nil
		}
		held = d.Amount
	}
	var got [3]uint64
	if ruled {
		out, err := terms.Run(tree, event, api.TermsEnv{Caller: role, Amount: d.Amount, Held: held, Now: now, Opened: d.Opened, Due: d.Due, Asked: c.Amount, Disputed: d.Phase == 3}, 1000)
		if err != nil {
			panic(err)
		}
		if out.End != api.EndDone {
			return api.ErrDealRule, []uint64{uint64(out.End), out.Fail}
		}
		got = out.Pay
	} else if c.Verb == api.VArbitrate {
		if c.Amount > held {
			return api.ErrDealAmount, nil
		}
		got[1] = c.Amount
	}
	accts := []uint64{d.Buyer, d.Seller, d.Arbiter}
	if row.ends {
		rest := held - got[0] - got[1] - got[2]
		if c.Verb == api.VRelease {
			got[1] += rest
		} else {
			got[0] += rest
		}
		var shares []api.Share
		for i, n := range got {
			if n > 0 {
				shares = append(shares, api.Share{To: accts[i], Amount: n})
			}
		}
		if held > 0 {
			if code := l.Settle(d.ID, shares); code != api.OK {
				return code, nil
			}
		}
		p.Ends++
		d.End = p.Ends
	} else {
		for i, n := range got {
			if n > 0 {
				if code := l.Pay(d.ID, accts[i], n); code != api.OK {
					return code, nil
				}
			}
		}
	}
	for i := range got {
		d.Paid[i] += got[i]
	}
	d.Phase = row.then
	return api.OK, got[:]
}

// ruleOf gives the tree of some terms, and whether it has a rule for the event.
func ruleOf(text string, event int) ([]api.TermsNode, bool) {
	if text == "" {
		return nil, false
	}
	tree, err := terms.Parse(text)
	if err != nil {
		panic(err)
	}
	return tree, slices.ContainsFunc(tree, func(n api.TermsNode) bool { return n.Op == api.TOn && n.N == uint64(event) })
}

// imageFault tells why an image is refused, by the list of P5.3; behind the first number, and the place, it tells whether the ledger refuses it.
func imageFault(img api.HouseImage) (why api.Errno, at int, byLedger bool) {
	if _, err := ledger.Restore(img.Book); err != nil {
		f := err.(*api.Fault)
		return f.Err.(api.Errno), 0, true
	}
	if len(img.Deals) > 32 {
		return api.ErrDealFull, 0, false
	}
	if img.Ends > last {
		return api.ErrImage, 0, false
	}
	for i := range img.Deals {
		if why := plainDealFault(img, i); why != api.OK {
			return why, i, false
		}
	}
	for _, h := range img.Book.Holds {
		if (plain{img}).find(h.ID) < 0 {
			return api.ErrImage, len(img.Deals), false
		}
	}
	return api.OK, 0, false
}

func plainDealFault(img api.HouseImage, i int) api.Errno {
	d := img.Deals[i]
	ended := d.Phase > 3
	twice := false
	for _, e := range img.Deals[:i] {
		twice = twice || ended && e.Phase > 3 && e.End == d.End
	}
	paid := new(big.Int)
	for _, n := range d.Paid {
		paid.Add(paid, new(big.Int).SetUint64(n))
	}
	amount := new(big.Int).SetUint64(d.Amount)
	held := new(big.Int).SetUint64(plain{img}.held(d.ID))
	full := new(big.Int).Add(paid, held).Cmp(amount) == 0
	none := paid.Sign() == 0
	fits := map[api.Phase]bool{
		1: none && held.Sign() == 0,
		2: full,
		3: full,
		4: full && held.Sign() == 0,
		5: full && held.Sign() == 0,
		6: full && held.Sign() == 0,
		7: (full || none) && held.Sign() == 0,
		8: none && held.Sign() == 0,
	}[d.Phase]
	for _, r := range []struct {
		is  bool
		why api.Errno
	}{
		{d.ID == 0, api.ErrDealZero},
		{i > 0 && d.ID <= img.Deals[max(i-1, 0)].ID, api.ErrImage},
		{d.Phase < 1 || d.Phase > 8, api.ErrImage},
		{d.Amount == 0, api.ErrDealAmount},
		{d.Due <= d.Opened, api.ErrDealDue},
		{!ended && d.End != 0 || ended && d.End == 0 || d.End > img.Ends || twice, api.ErrImage},
		{!plainTerms(d.Terms), api.ErrDealTerms},
		{paid.Cmp(amount) > 0, api.ErrDealAmount},
		{!ended && !plainParties(img, d), api.ErrDealParty},
		{slices.ContainsFunc(img.Book.Holds, func(h api.Hold) bool { return h.ID == d.ID && h.From != d.Buyer }), api.ErrImage},
		{!fits, api.ErrImage},
	} {
		if r.is {
			return r.why
		}
	}
	return api.OK
}

func plainTerms(text string) bool {
	if text == "" {
		return true
	}
	tree, err := terms.Parse(text)
	return err == nil && terms.Check(tree) == nil && utf8.ValidString(text)
}

func plainParties(img api.HouseImage, d api.Deal) bool {
	seen := map[uint64]int{}
	for _, acct := range []uint64{d.Buyer, d.Seller, d.Arbiter} {
		who, there := plain{img}.owner(acct)
		if !there {
			return false
		}
		seen[who]++
	}
	return len(seen) == 3
}
