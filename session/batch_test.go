package session_test

import (
	"slices"
	"testing"

	"quorum/api"
	"quorum/session"
)

// A stamp below the time, the time itself, one above it, the greatest.
func TestP7_4SlotAndTime(t *testing.T) {
	m := machine(t)
	for i, stamp := range []uint64{0, 5, 4, 5, 0, 6, api.MaxTick, api.MaxTick - 1, api.MaxTick} {
		runs(t, m, batch(stamp)) // looks at slot and time
		if m.Slot() != uint64(i)+1 {
			t.Errorf("slot %d behind %d batches", m.Slot(), i+1)
		}
	}
	if m.Now() != api.MaxTick || !same(m.Image(), api.Image{Slot: 9, Now: api.MaxTick, House: machine(t).Image().House}) {
		t.Errorf("empty batches leave %v", m.Image())
	}
}

// The house is told the machine's time, not the batch's stamp.
func TestP7_4TheHousesTime(t *testing.T) {
	m := restored(t, rich(t)) // time 9; the deal 7 is due at 20
	expire := packed(t, api.Cmd{Verb: api.VExpire, Deal: 7})
	runs(t, m, batch(19, ask(300, 3, expire)), reply(300, 3, 19, api.ErrDealDue))
	runs(t, m, batch(20))
	runs(t, m, batch(2, ask(300, 4, expire)), reply(300, 4, 20, api.OK, 60, 0, 0))
}

func TestP7_4NoRequests(t *testing.T) {
	m := machine(t)
	for _, b := range []api.Batch{{}, {Reqs: []api.Request{}}} {
		got, err := m.Batch(b)
		if got != nil || err != nil {
			t.Errorf("Batch: %v %v", got, err)
		}
	}
}

// All that may be the matter with a batch; rank is its place in the order of the refusals.
func TestP7_4Refusals(t *testing.T) {
	long := make([]byte, api.MaxCmd+1)
	full := api.Batch{Stamp: api.MaxTick}
	for i := range uint64(api.MaxReqs) {
		full.Reqs = append(full.Reqs, ask(256+i, 1, nil))
	}
	type wrong struct {
		what string
		rank int
		at   int
		do   func(*api.Batch)
	}
	list := []wrong{
		{"a stamp one too great", 0, 0, func(b *api.Batch) { b.Stamp = api.MaxTick + 1 }},
		{"the greatest stamp", 0, 0, func(b *api.Batch) { b.Stamp = most }},
		{"one request too many", 1, 1, func(b *api.Batch) { b.Reqs = append(b.Reqs, ask(400, 1, nil)) }},
	}
	for i := range api.MaxReqs {
		list = append(list,
			wrong{"client 255", 2 + i, 2 + i, func(b *api.Batch) { b.Reqs[i].Client = 255 }},
			wrong{"client 0", 2 + i, 2 + i, func(b *api.Batch) { b.Reqs[i].Client = 0 }},
			wrong{"number 0", 2 + i, 2 + i, func(b *api.Batch) { b.Reqs[i].Seq = 0 }},
			wrong{"701 bytes", 2 + i, 2 + i, func(b *api.Batch) { b.Reqs[i].Cmd = long }})
	}
	fresh := func() api.Batch { return batch(full.Stamp, slices.Clone(full.Reqs)...) }
	m := restored(t, rich(t))
	for _, x := range list {
		b := fresh()
		x.do(&b)
		refuses(t, x.what, m, b, api.ErrSessionBatch, x.at)
		for _, y := range list {
			if x.rank < y.rank {
				b := fresh()
				y.do(&b)
				x.do(&b)
				refuses(t, x.what+" and "+y.what, m, b, api.ErrSessionBatch, x.at)
			}
		}
	}
	got, err := m.Batch(fresh())
	if len(got) != api.MaxReqs || err != nil || m.Now() != api.MaxTick {
		t.Errorf("as great as a batch may be: %v %v", got, err)
	}
}

// At the last slot everything is refused, what is wrong in itself too.
func TestP7_4TheLastSlot(t *testing.T) {
	img := rich(t)
	img.Slot = api.MaxSlots - 1
	m := restored(t, img)
	runs(t, m, batch(5, ask(300, 3, none)), reply(300, 3, 9, api.ErrDealCommand))
	if m.Slot() != api.MaxSlots {
		t.Fatalf("slot %d", m.Slot())
	}
	for what, b := range map[string]api.Batch{
		"an empty batch":   {},
		"a request":        batch(5, ask(300, 4, T)),
		"a stamp above":    batch(most),
		"too many":         {Reqs: make([]api.Request, 9)},
		"a wrong request":  batch(5, api.Request{}),
		"one that has run": batch(5, ask(300, 3, none)),
	} {
		refuses(t, what, m, b, api.ErrSessionEnd, 0)
	}
	if got, code := m.Ask(300, 3); code != api.OK || !same(got, reply(300, 3, 9, api.ErrDealCommand)) {
		t.Errorf("Ask at the last slot: %v %d", got, code)
	}
}

// The least and the greatest of everything runs.
func TestP7_4AtTheLimits(t *testing.T) {
	m := machine(t)
	long := make([]byte, api.MaxCmd)
	runs(t, m, batch(0, ask(256, 1, nil), ask(most, most, long), ask(257, most, []byte{}), ask(258, 1, T)),
		reply(256, 1, 0, api.ErrDealCommand), reply(most, most, 0, api.ErrDealCommand), reply(257, most, 0, api.ErrDealCommand), reply(258, 1, 0, api.ErrDealRole))
	runs(t, m, batch(1, ask(most, most-1, T), ask(257, 1, B), ask(256, 2, nil)), reply(256, 2, 1, api.ErrDealCommand))
	terms := "#"
	for len(terms) < api.MaxTerms {
		terms += "x"
	}
	open := api.Cmd{Verb: api.VOpen, Deal: most, Acct: most, To: most - 1, Arbiter: most - 2, Amount: most, Due: most, Terms: terms}
	runs(t, m, batch(1, ask(300, 1, packed(t, open))), reply(300, 1, 1, api.ErrLedgerUnknown))
}

// One client's numbers within one batch: rising, the same, falling.
func TestP7_4WithinABatch(t *testing.T) {
	m := machine(t)
	runs(t, m, batch(3, ask(300, 2, T), ask(300, 1, T), ask(300, 2, none), ask(300, 5, T), ask(300, 2, T), ask(300, 3, T), ask(300, 5, T), ask(301, 1, B)),
		reply(300, 2, 3, api.OK), reply(300, 2, 3, api.OK), reply(300, 5, 3, api.OK), reply(300, 5, 3, api.OK), reply(301, 1, 3, api.OK, 60, 500))
	balances(t, m, 40, 60)
	want := []api.Session{{Client: 300, Seq: 5, Stamp: 3}, {Client: 301, Seq: 1, Stamp: 3, Data: numbers(60, 500)}}
	if is := m.Image().Sessions; !same(is, want) {
		t.Errorf("the sessions are %v", is)
	}
}

// The numbers of two clients have nothing to do with each other.
func TestP7_4TwoClients(t *testing.T) {
	m := machine(t)
	runs(t, m, batch(1, ask(300, 9, T)), reply(300, 9, 1, api.OK))
	runs(t, m, batch(2, ask(301, 1, B), ask(300, 1, T)), reply(301, 1, 2, api.OK, 30, 500))
	runs(t, m, batch(3, ask(300, 9, T), ask(301, 1, B)), reply(300, 9, 1, api.OK), reply(301, 1, 2, api.OK, 30, 500))
	balances(t, m, 70, 30)
}

// A reply is kept as it was, though it would be another one now; a refused command uses its number up.
func TestP7_4KeptAsItWas(t *testing.T) {
	m := machine(t)
	runs(t, m, batch(1, ask(301, 1, B), ask(300, 1, T)), reply(301, 1, 1, api.OK, 0, 500), reply(300, 1, 1, api.OK))
	runs(t, m, batch(2, ask(301, 1, B)), reply(301, 1, 1, api.OK, 0, 500))
	runs(t, m, batch(3, ask(301, 2, T)), reply(301, 2, 3, api.ErrDealRole))
	runs(t, m, batch(4, ask(301, 2, B)), reply(301, 2, 3, api.ErrDealRole))
	runs(t, m, batch(4, ask(301, 1, B)))
	balances(t, m, 70, 30)
}

// sixteen gives a machine that knows as many clients as it may, 400 to 415.
func sixteen(t *testing.T) *session.Machine {
	t.Helper()
	m := machine(t)
	for i := range uint64(api.MaxClients) {
		runs(t, m, batch(i, ask(400+i, 3, none)), reply(400+i, 3, i, api.ErrDealCommand))
	}
	return m
}

func TestP7_4Full(t *testing.T) {
	m := sixteen(t)
	was := m.Image()
	transfer := packed(t, api.Cmd{Verb: api.VTransfer, Acct: 1, To: 2, Amount: 30})
	runs(t, m, batch(20, ask(300, 1, transfer), ask(300, 1, transfer), ask(900, most, nil), ask(415, 3, T), ask(414, 2, T)),
		reply(300, 1, 20, api.ErrSessionFull), reply(300, 1, 20, api.ErrSessionFull), reply(900, most, 20, api.ErrSessionFull), reply(415, 3, 15, api.ErrDealCommand))
	is := m.Image()
	was.Slot, was.Now = is.Slot, is.Now
	if !same(is, was) {
		t.Errorf("a machine that is full keeps something: %v, was %v", is, was)
	}
	runs(t, m, batch(21, ask(300, 1, T), ask(400, 4, none)), reply(300, 1, 21, api.ErrSessionFull), reply(400, 4, 21, api.ErrDealCommand))
	if got, code := m.Ask(300, 1); code != api.ErrSessionNew || !same(got, api.Reply{}) {
		t.Errorf("Ask of a client that is not known: %v %d", got, code)
	}
	runs(t, loaded(t, snapshot(t, m)), batch(22, ask(300, 1, T)), reply(300, 1, 22, api.ErrSessionFull))
}

// The sixteenth client comes in and the seventeenth does not, in one batch too.
func TestP7_4TheLastClient(t *testing.T) {
	img := sixteen(t).Image()
	img.Sessions = img.Sessions[1:]
	m := restored(t, img)
	runs(t, m, batch(20, ask(300, 1, T), ask(301, 1, B), ask(300, 2, T), ask(300, 1, T)),
		reply(300, 1, 20, api.OK), reply(301, 1, 20, api.ErrSessionFull), reply(300, 2, 20, api.OK))
	balances(t, m, 40, 60)
}

// filled writes over a list with the room behind its end.
func filled(b []byte) {
	for i := range b[:cap(b)] {
		b[:cap(b)][i] = 0xaa
	}
}

func TestP7_4NewMemory(t *testing.T) {
	m := machine(t)
	cmd := slices.Clone(B)
	b := batch(1, ask(301, 1, cmd), ask(301, 1, cmd), ask(301, 1, cmd))
	want := reply(301, 1, 1, api.OK, 0, 500)
	for range 3 { // first it runs, then it is told again
		got, err := m.Batch(b)
		if err != nil || !same(got, []api.Reply{want, want, want}) {
			t.Fatalf("Batch: %v %v", got, err)
		}
		filled(got[0].Data)
		filled(got[2].Data)
		if !same(got[1], want) {
			t.Error("two replies of one batch share memory")
		}
		filled(got[1].Data)
	}
	clear(cmd)
	b.Reqs[0] = api.Request{}
	if got, code := m.Ask(301, 1); code != api.OK || !same(got, want) {
		t.Errorf("Ask: %v %d", got, code)
	}
	if got := m.Image().Sessions; len(got) != 1 || !same(got[0].Data, want.Data) {
		t.Errorf("the sessions are %v", got)
	}
}

func TestP7_4NothingHandedInIsKeptOrChanged(t *testing.T) {
	m := begun(t, append(twoAccounts(), api.Account{ID: 3, Owner: 302, Cap: 50})...)
	open := packed(t, api.Cmd{Verb: api.VOpen, Deal: 7, Acct: 1, To: 2, Arbiter: 3, Amount: 60, Due: 20, Terms: "on release { pay 6 to arbiter; }"})
	b := batch(1, ask(300, 1, open), ask(300, 1, open), ask(301, 1, B))
	was := batch(1, ask(300, 1, slices.Clone(open)), ask(300, 1, slices.Clone(open)), ask(301, 1, slices.Clone(B)))
	runs(t, m, b, reply(300, 1, 1, api.OK), reply(300, 1, 1, api.OK), reply(301, 1, 1, api.OK, 0, 500))
	if !same(b, was) {
		t.Errorf("what was handed in is changed: %v", b)
	}
	img := m.Image()
	clear(open)
	clear(b.Reqs)
	if !same(m.Image(), img) || img.House.Deals[0].Terms != "on release { pay 6 to arbiter; }" {
		t.Error("what was handed in is kept")
	}
}
