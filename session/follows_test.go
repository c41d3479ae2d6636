package session_test

import (
	"bytes"
	"testing"

	"quorum/api"
	"quorum/deal"
	"quorum/session"
)

// alike wants two machines to tell the same of everything.
func alike(t *testing.T, m, n *session.Machine) {
	t.Helper()
	if m.Slot() != n.Slot() || m.Now() != n.Now() || !same(m.Image(), n.Image()) || !bytes.Equal(snapshot(t, m), snapshot(t, n)) {
		t.Fatalf("two machines that should be alike:\n%v\n%v", m.Image(), n.Image())
	}
}

// Long runs: the machine answers and is, behind each batch, what the plain one says.
func TestP7_7RunsBesideASecondMachine(t *testing.T) {
	d := &dice{77}
	codes := map[api.Errno]int{}
	silent, again := 0, 0
	for range 60 {
		m := begun(t, fiveAccounts()...)
		house, _ := deal.New(fiveAccounts())
		p := &plain{house: house}
		var sent []api.Request
		for range 100 {
			b := d.batch(t, m, sent)
			sent = append(sent, b.Reqs...)
			before := len(p.ran)
			want := p.batch(b)
			got, err := m.Batch(b)
			if err != nil || !same(got, want) {
				t.Fatalf("Batch(%v): %v %v, want %v", b, got, err, want)
			}
			if is := m.Image(); !same(is, p.image()) {
				t.Fatalf("Batch(%v): the machine is\n%v, want\n%v", b, is, p.image())
			}
			for range 5 {
				client, seq := d.client(), uint64(d.below(30))
				if s, known := p.last(client); known {
					seq = s.Request.Seq + uint64(d.below(3)) - 1
				}
				got, code := m.Ask(client, seq)
				if want, why := p.ask(client, seq); code != why || !same(got, want) {
					t.Fatalf("Ask(%d, %d): %v %d, want %v %d", client, seq, got, code, want, why)
				}
			}
			for _, r := range want {
				codes[r.Code]++
			}
			silent += len(b.Reqs) - len(want)
			again += len(want) - (len(p.ran) - before)
		}
	}
	if silent < 300 || again < 300 {
		t.Errorf("only %d requests without a reply and %d that did not run", silent, again)
	}
	for _, code := range []api.Errno{api.OK, api.ErrSessionFull, api.ErrDealCommand, api.ErrDealRole, api.ErrDealPhase, api.ErrDealTaken, api.ErrDealUnknown, api.ErrDealTerms, api.ErrDealDue, api.ErrDealRule, api.ErrLedgerFunds, api.ErrLedgerUnknown, api.ErrLedgerCap} {
		if codes[code] < 10 {
			t.Errorf("only %d requests came to %d: %v", codes[code], code, codes)
		}
	}
}

// At most once: the house is that of one that was given, once only, each request of a known client whose number is above all of that client's ahead of it.
func TestP7_7AtMostOnce(t *testing.T) {
	d := &dice{770}
	for range 60 {
		m := begun(t, fiveAccounts()...)
		house, _ := deal.New(fiveAccounts())
		var sent []api.Request
		above := map[uint64]uint64{}
		now := uint64(0)
		for range 60 {
			b := d.batch(t, m, sent)
			sent = append(sent, b.Reqs...)
			now = max(now, b.Stamp)
			if _, err := m.Batch(b); err != nil {
				t.Fatal(err)
			}
			for _, q := range b.Reqs {
				if _, known := above[q.Client]; !known && len(above) == api.MaxClients {
					continue
				}
				if q.Seq > above[q.Client] {
					house.Apply(q.Client, q.Cmd, now)
					above[q.Client] = q.Seq
				}
			}
		}
		if is := m.Image().House; !same(is, house.Image()) {
			t.Fatalf("the house is\n%v, want\n%v", is, house.Image())
		}
	}
}

// A snapshot is the machine: taken anywhere, it goes on as the machine does.
func TestP7_7ASnapshotIsTheMachine(t *testing.T) {
	d := &dice{777}
	for range 30 {
		m, twin := begun(t, fiveAccounts()...), begun(t, fiveAccounts()...)
		other := loaded(t, snapshot(t, m))
		var sent []api.Request
		for range 40 {
			b := d.batch(t, m, sent)
			sent = append(sent, b.Reqs...)
			want, err := m.Batch(b)
			for _, n := range []*session.Machine{twin, other} {
				got, no := n.Batch(b)
				if err != nil || no != nil || !same(got, want) {
					t.Fatalf("Batch(%v): %v %v, want %v %v", b, got, no, want, err)
				}
				alike(t, m, n)
			}
			switch d.below(3) {
			case 0:
				other = loaded(t, snapshot(t, other))
			case 1:
				other = restored(t, other.Image())
			}
		}
	}
}

// A batch that runs again changes nothing but slot and time, and tells what it told of the requests that are their clients' last.
func TestP7_7ABatchRunsAgain(t *testing.T) {
	d := &dice{7777}
	for range 40 {
		m := begun(t, fiveAccounts()...)
		var sent []api.Request
		for range 30 {
			b := d.batch(t, m, sent)
			sent = append(sent, b.Reqs...)
			first, err := m.Batch(b)
			if err != nil {
				t.Fatal(err)
			}
			b.Stamp += uint64(d.below(3))
			was := m.Image()
			again, err := m.Batch(b)
			if err != nil {
				t.Fatal(err)
			}
			is := m.Image()
			if is.Slot != was.Slot+1 || is.Now != max(was.Now, b.Stamp) {
				t.Fatalf("slot %d and time %d, were %d and %d", is.Slot, is.Now, was.Slot, was.Now)
			}
			is.Slot, is.Now = was.Slot, was.Now
			if !same(is, was) {
				t.Fatalf("Batch(%v) again: the machine is\n%v, was\n%v", b, is, was)
			}
			for _, r := range again {
				if r.Code == api.ErrSessionFull {
					continue
				}
				if last, code := m.Ask(r.Client, r.Seq); code != api.OK || !same(last, r) || !contains(first, r) {
					t.Fatalf("Batch(%v) again: %v, was %v", b, again, first)
				}
			}
		}
	}
}

func contains(list []api.Reply, r api.Reply) bool {
	for _, x := range list {
		if same(x, r) {
			return true
		}
	}
	return false
}

// A batch that is refused leaves no trace: a machine that was never given it goes on the same.
func TestP7_7RefusedBatchesLeaveNoTrace(t *testing.T) {
	d := &dice{707}
	for range 20 {
		m, calm := begun(t, fiveAccounts()...), begun(t, fiveAccounts()...)
		var sent []api.Request
		for range 30 {
			b := d.batch(t, m, sent)
			sent = append(sent, b.Reqs...)
			wrong := batch(b.Stamp, append(b.Reqs[:len(b.Reqs):len(b.Reqs)], ask(one(d, uint64(255), 0), 1, nil))...)
			refuses(t, "a wrong request at the end", m, wrong, api.ErrSessionBatch, placeBehind(len(b.Reqs)))
			got, err := m.Batch(b)
			want, no := calm.Batch(b)
			if err != nil || no != nil || !same(got, want) {
				t.Fatalf("Batch(%v): %v %v, want %v %v", b, got, err, want, no)
			}
			alike(t, m, calm)
		}
	}
}

// placeBehind tells the place of the fault when a wrong request stands behind so many: the request's, or that of their number.
func placeBehind(n int) int {
	if n == api.MaxReqs {
		return 1
	}
	return 2 + n
}
