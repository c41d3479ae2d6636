package session_test

import (
	"encoding/binary"
	"errors"
	"reflect"
	"slices"
	"testing"

	"quorum/api"
	"quorum/deal"
	"quorum/session"
)

const most = 1<<64 - 1

// T moves 30 from account 1 to account 2, B asks for the balance of account 2, none is no command.
var (
	T    = []byte{3, 1, 2, 30}
	B    = []byte{12, 2}
	none = []byte{0x63}
)

// twoAccounts are those of the chapter's examples.
func twoAccounts() []api.Account {
	return []api.Account{{ID: 1, Owner: 300, Balance: 100, Cap: 500}, {ID: 2, Owner: 301, Cap: 500}}
}

// isFault wants a fault of this layer with just that number and place.
func isFault(t *testing.T, what string, err error, why api.Errno, at int) {
	t.Helper()
	f, ok := err.(*api.Fault)
	if !ok || f == nil {
		t.Errorf("%s: %v is no fault, want %d at %d", what, err, why, at)
		return
	}
	if f.Layer != "session" || f.At != at || f.Err != error(why) || !errors.Is(err, why) {
		t.Errorf("%s: refused with %v, want %d at %d", what, err, why, at)
	}
}

// isLower wants a fault of this layer, and behind it just what the lower layer answers, both at its place.
func isLower(t *testing.T, what string, err, lower error) {
	t.Helper()
	want, ok := lower.(*api.Fault)
	if !ok || want == nil {
		t.Fatalf("%s: the layer below refuses nothing: %v", what, lower)
	}
	f, ok := err.(*api.Fault)
	if !ok || f == nil || f.Layer != "session" || f.At != want.At {
		t.Errorf("%s: %v, want a fault of session at %d", what, err, want.At)
		return
	}
	if g, ok := f.Err.(*api.Fault); !ok || !reflect.DeepEqual(g, want) {
		t.Errorf("%s: behind it %v, want %v", what, f.Err, want)
	}
	var outer *api.Fault
	if !errors.As(err, &outer) || outer != f {
		t.Errorf("%s: errors.As does not find the outer fault", what)
	}
}

// begun gives a machine with these accounts.
func begun(t testing.TB, accounts ...api.Account) *session.Machine {
	t.Helper()
	m, err := session.New(accounts)
	if m == nil || err != nil {
		t.Fatalf("New(%v): %v", accounts, err)
	}
	return m
}

// machine gives one with the two accounts.
func machine(t testing.TB) *session.Machine {
	t.Helper()
	return begun(t, twoAccounts()...)
}

// restored gives the machine of an image that is in order.
func restored(t testing.TB, img api.Image) *session.Machine {
	t.Helper()
	m, err := session.Restore(img)
	if m == nil || err != nil {
		t.Fatalf("Restore(%v): %v", img, err)
	}
	return m
}

// snapshot gives the bytes of a machine.
func snapshot(t testing.TB, m *session.Machine) []byte {
	t.Helper()
	b, err := m.Snapshot()
	if b == nil || err != nil {
		t.Fatalf("Snapshot: %v", err)
	}
	return b
}

// loaded gives the machine of a snapshot that is in order.
func loaded(t testing.TB, b []byte) *session.Machine {
	t.Helper()
	m, err := session.Load(b)
	if m == nil || err != nil {
		t.Fatalf("Load: %v", err)
	}
	return m
}

func batch(stamp uint64, reqs ...api.Request) api.Batch {
	return api.Batch{Stamp: stamp, Reqs: reqs}
}

func ask(client, seq uint64, cmd []byte) api.Request {
	return api.Request{Client: client, Seq: seq, Cmd: cmd}
}

// reply is one whose data are these numbers, eight bytes each.
func reply(client, seq, stamp uint64, code api.Errno, told ...uint64) api.Reply {
	return api.Reply{Client: client, Seq: seq, Stamp: stamp, Code: code, Data: numbers(told...)}
}

// numbers lays numbers down as data has them; no numbers are nil.
func numbers(list ...uint64) []byte {
	var b []byte
	for _, n := range list {
		b = binary.BigEndian.AppendUint64(b, n)
	}
	return b
}

// runs runs a batch and wants just these replies, nil being another thing than empty.
func runs(t *testing.T, m *session.Machine, b api.Batch, want ...api.Reply) {
	t.Helper()
	slot, now := m.Slot(), m.Now()
	got, err := m.Batch(b)
	if err != nil {
		t.Fatalf("Batch(%v): %v", b, err)
	}
	if !reflect.DeepEqual(got, want) {
		t.Errorf("Batch(%v): %v, want %v", b, got, want)
	}
	if m.Slot() != slot+1 || m.Now() != max(now, b.Stamp) {
		t.Errorf("Batch(%v): slot %d and time %d, were %d and %d", b, m.Slot(), m.Now(), slot, now)
	}
}

// refuses wants a batch to be refused so, and the machine to be as it was.
func refuses(t *testing.T, what string, m *session.Machine, b api.Batch, why api.Errno, at int) {
	t.Helper()
	was := m.Image()
	got, err := m.Batch(b)
	isFault(t, what, err, why, at)
	if got != nil {
		t.Errorf("%s: replies beside a refusal: %v", what, got)
	}
	if is := m.Image(); !same(is, was) {
		t.Errorf("%s: the machine is\n%v, was\n%v", what, is, was)
	}
}

// balances wants just these, in the order of the accounts.
func balances(t *testing.T, m *session.Machine, want ...uint64) {
	t.Helper()
	var got []uint64
	for _, a := range m.Image().House.Book.Accounts {
		got = append(got, a.Balance)
	}
	if !slices.Equal(got, want) {
		t.Errorf("the balances are %v, want %v", got, want)
	}
}

// same tells whether two things are the same, nil being another thing than empty.
func same(a, b any) bool { return reflect.DeepEqual(a, b) }

// twin gives an image of the same things that shares no memory with the first.
func twin(img api.Image) api.Image {
	book := &img.House.Book
	book.Accounts = slices.Clone(book.Accounts)
	book.Holds = slices.Clone(book.Holds)
	book.Journal = slices.Clone(book.Journal)
	img.House.Deals = slices.Clone(img.House.Deals)
	img.Sessions = slices.Clone(img.Sessions)
	for i := range img.Sessions {
		img.Sessions[i].Data = slices.Clone(img.Sessions[i].Data)
	}
	return img
}

// packed gives the bytes of a command.
func packed(t testing.TB, c api.Cmd) []byte {
	t.Helper()
	b, err := deal.Pack(c)
	if err != nil {
		t.Fatalf("Pack(%v): %v", c, err)
	}
	return b
}

// rich gives the image of a machine with a deal that is funded and one that is open, and three sessions, at slot 4 and time 9.
func rich(t testing.TB) api.Image {
	t.Helper()
	m := begun(t, append(twoAccounts(), api.Account{ID: 3, Owner: 302, Cap: 50})...)
	open := api.Cmd{Verb: api.VOpen, Deal: 7, Acct: 1, To: 2, Arbiter: 3, Amount: 60, Due: 20, Terms: "on release { pay 6 to arbiter; }"}
	other := api.Cmd{Verb: api.VOpen, Deal: 8, Acct: 2, To: 1, Arbiter: 3, Amount: 5, Due: 30}
	for _, b := range []api.Batch{
		batch(5, ask(300, 1, packed(t, open))),
		batch(7, ask(300, 2, packed(t, api.Cmd{Verb: api.VFund, Deal: 7}))),
		batch(6, ask(301, 4, packed(t, other))),
		batch(9, ask(302, 1, packed(t, api.Cmd{Verb: api.VLook, Deal: 7}))),
	} {
		if _, err := m.Batch(b); err != nil {
			t.Fatal(err)
		}
	}
	img := m.Image()
	for i, s := range img.Sessions {
		if s.Code != api.OK {
			t.Fatalf("session %d: %v", i, s)
		}
	}
	return img
}

// dice gives numbers that look like any, the same ones in every run.
type dice struct{ state uint64 }

func (d *dice) next() uint64 {
	d.state = d.state*6364136223846793005 + 1442695040888963407
	return d.state ^ d.state>>29
}

// below gives a number from 0 to n-1.
func (d *dice) below(n int) int { return int(d.next() >> 3 % uint64(n)) }

func one[E any](d *dice, list ...E) E { return list[d.below(len(list))] }
