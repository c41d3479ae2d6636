package deal_test

import (
	"reflect"
	"slices"
	"testing"

	"quorum/api"
	"quorum/deal"
)

// someTerms are terms of every kind: some ask much of the caller, some pay, some pay too much, some never end.
var someTerms = []string{
	"", "", "",
	"on fund { pay 1 to arbiter; }",
	"on fund { pay asked to buyer; pay asked to seller; pay asked to arbiter; }",
	"on fund { require caller == buyer, 3; } on release { require caller == buyer or disputed, 7; pay share(held, 1, 10) to arbiter; }",
	"on dispute { pay share(held, 1, 4) to seller; } on arbitrate { require asked <= 100, 11; pay share(held, asked, 100) to seller; }",
	"on refund { pay held to seller; } on expire { require disputed or held == 0, 5; }",
	"on expire { pay share(held, 1, 2) to seller; pay share(held, 1, 3) to arbiter; } on dispute { pay held to caller; }",
	"on release { let n = 0; while n < asked { set n = n + 1; } pay n to caller; }",
	"on arbitrate { pay held - asked to 1; pay asked to 2; } on refund { if now < due { fail 8; } else { pay now - due to arbiter; } }",
	"on fund { pay amount to seller; }",
	"on fund { pay amount to", "on fund { set x = 1; }", "on fund { } # é", "on release { while true { } }",
}

func (d *dice) client() uint64 { return buyer + uint64(d.below(6)) }

func (d *dice) acct() uint64 { return uint64(min(d.below(30), d.below(8)+1)) }

func (d *dice) amount() uint64 {
	switch d.below(20) {
	case 0:
		return most - uint64(d.below(3))
	case 1:
		return 0
	case 2, 3:
		return uint64(d.below(1000))
	}
	return uint64(d.below(40))
}

// command gives a command that often makes sense in that house, with a client that may often give it.
func (d *dice) command(p plain, now uint64) (uint64, api.Cmd) {
	who := d.client()
	c := api.Cmd{Verb: api.Verb(1 + d.below(13)), Acct: d.acct(), To: d.acct(), Arbiter: d.acct(), Amount: d.amount(), Due: now + uint64(d.below(30)), Terms: one(d, someTerms...), Deal: uint64(d.below(45))}
	if len(p.Deals) > 0 && c.Verb != api.VOpen && d.below(8) > 0 {
		x := one(d, p.Deals...)
		c.Deal = x.ID
		if d.below(6) > 0 { // by a party, as it is fit for the phase
			who = one(d, x.Buyer, x.Seller, x.Arbiter) - 1 + buyer
		}
		if d.below(3) == 0 && c.Verb >= api.VFund && c.Verb <= api.VExpire {
			c.Verb = one(d, map[api.Phase][]api.Verb{1: {api.VFund, api.VFund, api.VExpire}, 2: {api.VRelease, api.VDispute, api.VRefund, api.VExpire}, 3: {api.VArbitrate, api.VArbitrate, api.VRelease, api.VExpire}}[min(x.Phase, 3)]...)
		}
	}
	if c.Verb == api.VOpen && d.below(8) > 0 {
		c.Acct, c.To, c.Arbiter = 1+uint64(d.below(3)), 4, 5+uint64(d.below(2))
		who = c.Acct - 1 + buyer
	}
	if c.Verb <= api.VTransfer && d.below(4) > 0 {
		who = c.Acct - 1 + buyer
	}
	return who, trimmed(c)
}

// trimmed takes from a command what its verb does not use.
func trimmed(c api.Cmd) api.Cmd {
	back, err := deal.Unpack(secondPack(c))
	if err != nil {
		panic(err)
	}
	return back
}

// someHouse gives the image of a house to begin with: seldom with a journal, or ends, near their limit.
func (d *dice) someHouse(t testing.TB) plain {
	var list []api.Account
	for i := range uint64(6) {
		list = append(list, api.Account{ID: i + 1, Owner: buyer + i, Balance: uint64(d.below(200)), Cap: 200 + uint64(d.below(300))})
	}
	switch d.below(6) {
	case 0:
		list[0].Balance, list[0].Cap, list[3].Cap = most-2000, most, most
	case 1:
		list[4].Cap, list[5].Cap = list[4].Balance+3, list[5].Balance
	}
	img := begun(t, list...).Image()
	if d.below(5) == 0 {
		img = atLine(img, last-uint64(d.below(40)))
	}
	if d.below(5) == 0 {
		img.Ends = last - uint64(d.below(6))
	}
	return plain{img}
}

// Long runs of all commands: the house answers and is, behind each one, what the plain one says.
func TestP5_13RunsBesideASecondHouse(t *testing.T) {
	d := &dice{5}
	codes := map[api.Errno]int{}
	ends := map[api.Phase]int{}
	for range 150 {
		p := d.someHouse(t)
		h := restored(t, p.HouseImage)
		now := uint64(d.below(10))
		for range 250 {
			who, c := d.command(p, now)
			if d.below(40) == 0 {
				now = one(d, 0, most, most-5, now/2)
			} else if now < most-10 {
				now += uint64(d.below(4))
			}
			code, told, after := p.do(who, c, now)
			var got api.Result
			if d.below(2) == 0 {
				got = h.Do(who, c, now)
			} else {
				got = h.Apply(who, secondPack(c), now)
			}
			codes[code]++
			if got.Code != code || !same(got.Data, numbers(told...)) {
				t.Fatalf("Do(%d, %v, %d): %d %v, want %d %v, in\n%v", who, c, now, got.Code, got.Data, code, told, p)
			}
			is := h.Image()
			if !reflect.DeepEqual(is, after.HouseImage) {
				t.Fatalf("Do(%d, %v, %d): the house is\n%v, want\n%v", who, c, now, is, after.HouseImage)
			}
			soundMoney(t, p.HouseImage, is)
			for _, x := range is.Deals {
				ends[x.Phase]++
			}
			p = after
			if d.below(100) == 0 {
				h = restored(t, is) // it goes on the same from its image
			}
		}
	}
	for _, code := range []api.Errno{api.OK, api.ErrDealZero, api.ErrDealTaken, api.ErrDealUnknown, api.ErrDealRole, api.ErrDealPhase, api.ErrDealParty, api.ErrDealAmount, api.ErrDealDue, api.ErrDealTerms, api.ErrDealRule, api.ErrDealFull, api.ErrLedgerZero, api.ErrLedgerTaken, api.ErrLedgerUnknown, api.ErrLedgerFull, api.ErrLedgerAmount, api.ErrLedgerSame, api.ErrLedgerFunds, api.ErrLedgerCap, api.ErrLedgerBusy} {
		if codes[code] < 5 {
			t.Errorf("only %d commands came to %d: %v", codes[code], code, codes)
		}
	}
	for phase := api.PhaseOpen; phase <= api.PhaseCalledOff; phase++ {
		if ends[phase] < 100 {
			t.Errorf("only %d deals were in phase %d: %v", ends[phase], phase, ends)
		}
	}
}

// grown gives the image of a house in which much has happened.
func (d *dice) grown(t testing.TB) api.HouseImage {
	p := d.someHouse(t)
	now := uint64(5)
	for range 60 + d.below(200) {
		who, c := d.command(p, now)
		now += uint64(d.below(4))
		_, _, p = p.do(who, c, now)
	}
	return p.HouseImage
}

// spoil changes a thing or two of an image.
func (d *dice) spoil(img *api.HouseImage) {
	if len(img.Deals) == 0 {
		return
	}
	i := d.below(len(img.Deals))
	x := &img.Deals[i]
	near := func(n uint64) uint64 { return one(d, n+1, n-1, 0, 1, most, n+60, n*2) }
	switch d.below(20) {
	case 0:
		x.ID = near(x.ID)
	case 1, 2:
		x.Phase = api.Phase(d.below(11) - 1)
	case 3:
		x.Amount = near(x.Amount)
	case 4:
		x.Due = one(d, x.Opened, x.Opened+1, near(x.Due))
	case 5, 6:
		x.End = one(d, near(x.End), img.Ends, img.Deals[d.below(len(img.Deals))].End)
	case 7:
		x.Terms = one(d, someTerms...) + one(d, "", "#\xff", " ")
	case 8, 9:
		k := d.below(3)
		x.Paid[k] = near(x.Paid[k])
	case 10:
		x.Paid = [3]uint64{x.Amount, 0, 0}
	case 11:
		x.Paid = [3]uint64{}
	case 12:
		x.Buyer = d.acct()
	case 13:
		x.Seller = d.acct()
	case 14:
		x.Arbiter = d.acct()
	case 15:
		img.Ends = one(d, near(img.Ends), last, last+1)
	case 16:
		img.Deals = slices.Delete(img.Deals, i, i+1)
	case 17:
		d.spoilBook(&img.Book)
	case 18:
		if n := len(img.Book.Holds); n > 0 {
			img.Book.Holds[d.below(n)].From = d.acct()
		}
	case 19:
		img.Deals = append(img.Deals, img.Deals...)
	}
}

// spoilBook changes a ledger's image so that it often stays one.
func (d *dice) spoilBook(b *api.LedgerImage) {
	if len(b.Holds) == 0 || d.below(3) == 0 {
		b.Total++
		return
	}
	h := &b.Holds[d.below(len(b.Holds))]
	a := &b.Accounts[0]
	if d.below(2) == 0 && h.Amount > 1 && a.Balance < a.Cap {
		h.Amount--
		a.Balance++
	} else {
		a.Owner++
	}
}

// Images of all kinds: Restore takes, and refuses, just as the list of P5.3 says.
func TestP5_3BesideASecondCheck(t *testing.T) {
	d := &dice{53}
	whys := map[api.Errno]int{}
	for range 120 {
		good := d.grown(t)
		for range 60 {
			img := twin(good)
			for range d.below(4) {
				d.spoil(&img)
			}
			why, at, byLedger := imageFault(img)
			whys[why]++
			h, err := deal.Restore(img)
			switch {
			case why == api.OK:
				if h == nil || err != nil {
					t.Fatalf("Restore: %v, of\n%v", err, img)
				}
				if is := h.Image(); !reflect.DeepEqual(is, normal(img)) {
					t.Fatalf("Restore gives\n%v, of\n%v", is, img)
				}
			case h != nil:
				t.Fatalf("a house, want %d at %d, of\n%v", why, at, img)
			case byLedger:
				if f, ok := err.(*api.Fault); !ok || f.Layer != "deal" || f.At != 0 || f.Err.(*api.Fault).Layer != "ledger" || f.Err.(*api.Fault).Err != error(why) {
					t.Fatalf("Restore: %v, want %d of the ledger, of\n%v", err, why, img)
				}
			default:
				if f, ok := err.(*api.Fault); !ok || f.Layer != "deal" || f.At != at || f.Err != error(why) {
					t.Fatalf("Restore: %v, want %d at %d, of\n%v", err, why, at, img)
				}
			}
		}
	}
	for _, why := range []api.Errno{api.OK, api.ErrImage, api.ErrDealZero, api.ErrDealAmount, api.ErrDealDue, api.ErrDealTerms, api.ErrDealParty, api.ErrDealFull, api.ErrLedgerTotal} {
		if whys[why] < 5 {
			t.Errorf("only %d images came to %d: %v", whys[why], why, whys)
		}
	}
}

// normal gives an image with nil for lists without elements.
func normal(img api.HouseImage) api.HouseImage {
	if len(img.Deals) == 0 {
		img.Deals = nil
	}
	return img
}
