package engine_test

import (
	"errors"
	"reflect"
	"strings"
	"testing"

	"quorum/api"
	"quorum/deal"
	"quorum/engine"
	"quorum/wire"
)

const most = 1<<64 - 1

// head is a cluster line that layer 16 takes.
const head = "cluster 1 4 0 4 2 3 20 80 1000 1000\n"

// house is a whole setup in seven lines: three accounts, three clients.
const house = head + `account 1 256 100 1000
account 2 257 0 1000
account 3 258 20 1000
client 256 5
client 257 9
client 258 1
`

// houseLines is how many lines that has.
const houseLines = 7

// houseSetup is that setup as data.
func houseSetup() api.Setup {
	return api.Setup{
		Config: api.Config{F: 1, MaxBatch: 4, Delay: 0, Window: 4, Every: 2, Beat: 3, Epoch: 20, EpochMax: 80, MaxNum: 1000, MaxSlot: 1000},
		Accounts: []api.Account{
			{ID: 1, Owner: 256, Balance: 100, Cap: 1000},
			{ID: 2, Owner: 257, Balance: 0, Cap: 1000},
			{ID: 3, Owner: 258, Balance: 20, Cap: 1000},
		},
		Clients: []api.ClientSetup{{Id: 256, Resend: 5}, {Id: 257, Resend: 9}, {Id: 258, Resend: 1}},
	}
}

// same is equality to the last bit: nil is not an empty list.
func same(a, b any) bool { return reflect.DeepEqual(a, b) }

// packed gives the bytes of a command.
func packed(t testing.TB, cmd api.Cmd) []byte {
	t.Helper()
	b, err := deal.Pack(cmd)
	if err != nil {
		t.Fatalf("Pack(%+v): %v", cmd, err)
	}
	return b
}

// datagram gives the bytes of a client's request.
func datagram(t testing.TB, seq uint64, cmd []byte) []byte {
	t.Helper()
	b, err := wire.EncodeMsg(api.Msg{Kind: api.KRequest, Seq: seq, Cmd: cmd})
	if err != nil {
		t.Fatal(err)
	}
	return b
}

// isFault wants a fault of this layer with just that behind it, and that place.
func isFault(t testing.TB, what string, err error, why error, at int) {
	t.Helper()
	f, ok := err.(*api.Fault)
	if !ok || f == nil {
		t.Errorf("%s: %v is no fault, want %v at %d", what, err, why, at)
		return
	}
	if f.Layer != "engine" || f.At != at || !same(f.Err, why) || !errors.Is(err, f.Err) {
		t.Errorf("%s: refused with %v, want %v at %d", what, err, why, at)
	}
}

// parsed wants Parse to take a text.
func parsed(t testing.TB, text string) (api.Setup, []api.Event) {
	t.Helper()
	setup, events, err := engine.Parse(text)
	if err != nil {
		t.Fatalf("Parse(%q): %v", text, err)
	}
	return setup, events
}

// refuses wants Parse and Play to refuse a text so, and Tell to tell it.
func refuses(t testing.TB, what, text string, why error, at int) {
	t.Helper()
	setup, events, err := engine.Parse(text)
	isFault(t, what+", Parse", err, why, at)
	if !same(setup, api.Setup{}) || events != nil {
		t.Errorf("%s: Parse: %+v %+v beside a refusal", what, setup, events)
	}
	told, err := engine.Play(text)
	isFault(t, what+", Play", err, why, at)
	if told != "" {
		t.Errorf("%s: Play: %q beside a refusal", what, told)
	}
	if told = engine.Tell(text); err != nil && told != chain(err) {
		t.Errorf("%s: Tell: %q, want %q", what, told, chain(err))
	}
}

// printed wants Print to give a text.
func printed(t testing.TB, setup api.Setup, events []api.Event) string {
	t.Helper()
	text, err := engine.Print(setup, events)
	if err != nil {
		t.Fatalf("Print(%+v, %+v): %v", setup, events, err)
	}
	return text
}

// played wants Play to give a report, and Tell to tell just that.
func played(t testing.TB, text string) string {
	t.Helper()
	told, err := engine.Play(text)
	if err != nil {
		t.Fatalf("Play(%q): %v", text, err)
	}
	if again := engine.Tell(text); again != told {
		t.Fatalf("Tell(%q): %q, but Play: %q", text, again, told)
	}
	return told
}

// has wants a report to have each of these lines, one behind the other.
func has(t testing.TB, report string, lines ...string) {
	t.Helper()
	left := "\n" + report
	for _, l := range lines {
		at := strings.Index(left, "\n"+l+"\n")
		if at < 0 {
			t.Errorf("no line %q, or not in its place, in:\n%s", l, report)
			return
		}
		left = left[at+1+len(l):]
	}
}

// lacks wants no line of a report to have a text in it.
func lacks(t testing.TB, report, text string) {
	t.Helper()
	if strings.Contains(report, text) {
		t.Errorf("%q in:\n%s", text, report)
	}
}

// dice gives numbers that look like any, the same ones in every run.
type dice struct{ state uint64 }

func (d *dice) next() uint64 {
	d.state = d.state*6364136223846793005 + 1442695040888963407
	return d.state ^ d.state>>29
}

// below gives a number from 0 to n-1.
func (d *dice) below(n int) int { return int(d.next() >> 3 % uint64(n)) }

func one[E any](d *dice, list ...E) E { return list[d.below(len(list))] }

// bytes gives up to n bytes, nil for none.
func (d *dice) bytes(n int) []byte {
	var list []byte
	for range d.below(n + 1) {
		list = append(list, one(d, byte(d.next()>>9), 0, 255, 10, 34, 92))
	}
	return list
}
