package session_test

import (
	"testing"

	"quorum/api"
	"quorum/session"
	"quorum/snap"
)

// The chapter's examples, by their numbers.

func example1(t *testing.T) *session.Machine {
	t.Helper()
	m := machine(t)
	runs(t, m, batch(5, ask(300, 1, T)), reply(300, 1, 5, api.OK))
	if m.Slot() != 1 || m.Now() != 5 {
		t.Errorf("slot %d, time %d", m.Slot(), m.Now())
	}
	balances(t, m, 70, 30)
	return m
}

func example2(t *testing.T) *session.Machine {
	t.Helper()
	m := example1(t)
	runs(t, m, batch(4, ask(300, 1, T), ask(301, 9, B), ask(300, 1, T)),
		reply(300, 1, 5, api.OK), reply(301, 9, 5, api.OK, 30, 500), reply(300, 1, 5, api.OK))
	if m.Slot() != 2 || m.Now() != 5 {
		t.Errorf("slot %d, time %d", m.Slot(), m.Now())
	}
	balances(t, m, 70, 30)
	return m
}

func TestExample1And2(t *testing.T) { example2(t) }

func TestExample3(t *testing.T) {
	m := example2(t)
	runs(t, m, batch(6, ask(301, 8, B)))
	for _, c := range []struct {
		client, seq uint64
		want        api.Reply
		code        api.Errno
	}{
		{301, 8, api.Reply{}, api.ErrSessionOld},
		{301, 9, reply(301, 9, 5, api.OK, 30, 500), api.OK},
		{301, 10, api.Reply{}, api.ErrSessionNew},
		{302, 0, api.Reply{}, api.ErrSessionNew},
	} {
		if got, code := m.Ask(c.client, c.seq); code != c.code || !same(got, c.want) {
			t.Errorf("Ask(%d, %d): %v %d", c.client, c.seq, got, code)
		}
	}
}

func TestExample4(t *testing.T) {
	m := example2(t)
	runs(t, m, batch(7, ask(300, 2, none)), reply(300, 2, 7, api.ErrDealCommand))
	runs(t, m, batch(8, ask(300, 2, T)), reply(300, 2, 7, api.ErrDealCommand))
	balances(t, m, 70, 30)
}

func TestExample5(t *testing.T) {
	refuses(t, "a number 0 behind another", example2(t), batch(7, ask(300, 3, T), ask(300, 0, T)), api.ErrSessionBatch, 3)
}

func TestExample6(t *testing.T) {
	m := machine(t)
	for i := range uint64(16) {
		runs(t, m, batch(8, ask(300+i, 1, none)), reply(300+i, 1, 8, api.ErrDealCommand))
	}
	runs(t, m, batch(9, ask(900, 1, B)), reply(900, 1, 9, api.ErrSessionFull))
	runs(t, m, batch(12, ask(900, 1, B)), reply(900, 1, 12, api.ErrSessionFull))
}

func TestExample7(t *testing.T) {
	early := machine(t).Image()
	early.Now = 3
	_, err := session.Restore(early)
	isFault(t, "a time at slot 0", err, api.ErrSessionClock, 0)

	img := example2(t).Image()
	img.Sessions[1].Client = 300
	_, err = session.Restore(img)
	isFault(t, "a client twice", err, api.ErrSessionOrder, 1)

	img = example2(t).Image()
	img.Sessions[1].Stamp = img.Now + 1
	_, err = session.Restore(img)
	isFault(t, "a stamp above the time", err, api.ErrSessionReply, 1)
}

func TestExample8(t *testing.T) {
	_, err := session.Load(nil)
	_, lower := snap.Unpack(nil)
	isLower(t, "no bytes", err, lower)
	f := err.(*api.Fault)
	g := f.Err.(*api.Fault)
	h, ok := g.Err.(*api.Fault)
	if f.At != 0 || g.Layer != "snap" || g.At != 0 || !ok || h.Layer != "wire" || h.At != 0 || h.Err != error(api.ErrWireShort) {
		t.Errorf("no bytes: %v", err)
	}
}

// Of DOC.md's examples the second and the last go through this layer.

func TestExamplesOfTheWhole(t *testing.T) {
	m := begun(t, api.Account{ID: 1, Owner: 256, Balance: 50, Cap: 500}, api.Account{ID: 2, Owner: 257, Cap: 500}, api.Account{ID: 3, Owner: 258, Cap: 500})
	open := api.Cmd{Verb: api.VOpen, Deal: 7, Acct: 1, To: 2, Arbiter: 3, Amount: 50, Due: 900, Terms: "on release { require caller == buyer, 7; pay share(held, 1, 10) to arbiter; }"}
	release := packed(t, api.Cmd{Verb: api.VRelease, Deal: 7})
	runs(t, m, batch(1, ask(256, 1, packed(t, open)), ask(256, 2, packed(t, api.Cmd{Verb: api.VFund, Deal: 7}))),
		reply(256, 1, 1, api.OK), reply(256, 2, 1, api.OK, 0, 0, 0))
	runs(t, m, batch(2, ask(257, 1, release)), reply(257, 1, 2, api.ErrDealRule, 1, 7))
	runs(t, m, batch(3, ask(256, 3, release)), reply(256, 3, 3, api.OK, 0, 45, 5))

	_, err := session.New([]api.Account{{ID: 1, Owner: 256, Balance: 5, Cap: 4}})
	if err == nil || err.Error() != "session: 0: deal: 0: ledger: 0: quorum: errno 47" {
		t.Errorf("a balance above its cap: %v", err)
	}
}
