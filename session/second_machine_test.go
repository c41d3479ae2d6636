package session_test

import (
	"slices"
	"testing"

	"quorum/api"
	"quorum/deal"
	"quorum/session"
)

// ran is a request that ran, with its reply.
type ran struct {
	api.Request
	api.Reply
}

// plain is a second machine. It keeps the replies to all requests that ever ran, looks through all of them each time, and works the sessions out of them.
type plain struct {
	house *deal.House
	ran   []ran
	slot  uint64
	now   uint64
}

func (p *plain) clients() []uint64 {
	var list []uint64
	for _, r := range p.ran {
		if !slices.Contains(list, r.Request.Client) {
			list = append(list, r.Request.Client)
		}
	}
	slices.Sort(list)
	return list
}

// last gives the last request of a client that ran.
func (p *plain) last(client uint64) (ran, bool) {
	for _, r := range slices.Backward(p.ran) {
		if r.Request.Client == client {
			return r, true
		}
	}
	return ran{}, false
}

func (p *plain) batch(b api.Batch) []api.Reply {
	p.slot++
	if b.Stamp > p.now {
		p.now = b.Stamp
	}
	var out []api.Reply
	for _, q := range b.Reqs {
		s, known := p.last(q.Client)
		if !known && len(p.clients()) == 16 {
			out = append(out, api.Reply{Client: q.Client, Seq: q.Seq, Stamp: p.now, Code: 140})
			continue
		}
		if known && q.Seq < s.Request.Seq {
			continue
		}
		if !known || q.Seq != s.Request.Seq {
			result := p.house.Apply(q.Client, q.Cmd, p.now)
			s = ran{q, api.Reply{Client: q.Client, Seq: q.Seq, Stamp: p.now, Code: result.Code, Data: result.Data}}
			p.ran = append(p.ran, s)
		}
		out = append(out, s.Reply)
	}
	return out
}

// ask tells what a machine answers that has seen all this.
func (p *plain) ask(client, seq uint64) (api.Reply, api.Errno) {
	s, known := p.last(client)
	if known && s.Request.Seq == seq {
		return s.Reply, 0
	}
	if known && s.Request.Seq > seq {
		return api.Reply{}, 141
	}
	return api.Reply{}, 142
}

func (p *plain) image() api.Image {
	img := api.Image{Slot: p.slot, Now: p.now, House: p.house.Image()}
	for _, c := range p.clients() {
		s, _ := p.last(c)
		img.Sessions = append(img.Sessions, api.Session(s.Reply))
	}
	return img
}

// fiveAccounts are those of the runs; their owners are 300 to 304.
func fiveAccounts() []api.Account {
	var list []api.Account
	for i := range uint64(5) {
		list = append(list, api.Account{ID: i + 1, Owner: 300 + i, Balance: 50 * i, Cap: 300})
	}
	return list
}

// command gives the bytes of a command that often makes sense, and a client that may most often give it.
func (d *dice) command(t testing.TB) (uint64, []byte) {
	c := api.Cmd{Verb: one(d, api.Verb(1+d.below(14)), api.Verb(1+d.below(14)), api.VOpen, api.VFund, api.VRelease)}
	acct, id := uint64(1+d.below(5)), uint64(1+d.below(4))
	client := 299 + acct
	switch c.Verb {
	case api.VEnrol:
		c.Acct, c.Amount = acct+one(d, 0, uint64(5)), uint64(d.below(60))
	case api.VClose, api.VBalance:
		c.Acct = acct + one(d, 0, uint64(5))
	case api.VTransfer:
		c.Acct, c.To, c.Amount = acct, uint64(1+d.below(6)), uint64(d.below(200))
	case api.VOpen: // the deal's parties follow from its number, so that they are met again
		c.Deal, c.Acct, c.To, c.Arbiter, c.Amount, c.Due = id, id+1, 1, (id+1)%4+2, uint64(d.below(60)), uint64(d.below(300))
		c.Terms = one(d, "", "on release { require caller == buyer, 7; pay share(held, 1, 10) to arbiter; }", "on fund { pay asked to seller; }", "on fund {")
		client = 299 + c.Acct
	case api.VCallOff, api.VLook:
		c.Deal = id
		client = 299 + one(d, id+1, 1)
	case 14:
		return d.client(), one(d, nil, none, []byte{0, 1}, []byte{12}, []byte{3, 1, 2, 30, 0})
	default:
		c.Deal, c.Amount = id, uint64(d.below(3))
		client = 299 + one(d, id+1, id+1, 1, (id+1)%4+2)
	}
	if d.below(6) == 0 {
		client = d.client()
	}
	return client, packed(t, c)
}

// client gives one of so many that a machine can't know all of them.
func (d *dice) client() uint64 {
	if d.below(4) == 0 {
		return one(d, uint64(256), most, 1<<32)
	}
	return 280 + uint64(d.below(40))
}

// batch gives a batch with requests that are new, that ran, and that are old; sent are those that were sent ahead of it.
func (d *dice) batch(t testing.TB, m *session.Machine, sent []api.Request) api.Batch {
	b := api.Batch{Stamp: one(d, m.Now()+uint64(d.below(5)), uint64(d.below(40)), m.Now())}
	next := map[uint64]uint64{}
	for _, s := range m.Image().Sessions {
		next[s.Client] = s.Seq
	}
	for range d.below(api.MaxReqs + 1) {
		switch all := append(slices.Clone(sent), b.Reqs...); {
		case len(all) > 0 && d.below(3) == 0: // once more
			b.Reqs = append(b.Reqs, all[len(all)-1-min(d.below(len(all)), d.below(20))])
		default:
			client, cmd := d.command(t)
			next[client] += one(d, uint64(1), 1, 1, 2)
			if d.below(12) == 0 { // any number
				next[client] = 1 + d.next()>>(20+d.below(44))
			}
			b.Reqs = append(b.Reqs, ask(client, next[client], cmd))
		}
	}
	return b
}
