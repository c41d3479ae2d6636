package engine_test

import (
	"strings"
	"testing"

	"quorum/api"
	"quorum/engine"
)

// noText wants Print to refuse so.
func noText(t testing.TB, what string, setup api.Setup, events []api.Event, why api.Errno, at int) {
	t.Helper()
	text, err := engine.Print(setup, events)
	isFault(t, what, err, why, at)
	if text != "" {
		t.Errorf("%s: %q beside a refusal", what, text)
	}
}

func TestP18_2Lines(t *testing.T) {
	var all string
	var events []api.Event
	for _, c := range lineCases(t) {
		if got, want := printed(t, houseSetup(), []api.Event{c.want}), house+c.line+"\n"; got != want {
			t.Errorf("%q, want %q", got, want)
		}
		all, events = all+c.line+"\n", append(events, c.want)
	}
	if got := printed(t, houseSetup(), events); got != house+all {
		t.Errorf("all lines: %q, want %q", got, house+all)
	}
	if got := printed(t, houseSetup(), nil); got != house {
		t.Errorf("no events: %q, want %q", got, house)
	}
	if got := printed(t, api.Setup{}, nil); got != "cluster 0 0 0 0 0 0 0 0 0 0\n" {
		t.Errorf("nothing: %q", got)
	}
}

// Accounts stand ahead of clients, each in the list's order, twice too.
func TestP18_2Setup(t *testing.T) {
	s := api.Setup{
		Config:   api.Config{F: 1, MaxBatch: 2, Delay: 3, Window: 4, Every: 5, Beat: 6, Epoch: 7, EpochMax: 8, MaxNum: 9, MaxSlot: 10},
		Accounts: []api.Account{{ID: 5, Owner: 6, Balance: 7, Cap: 8}, {ID: 1, Owner: 2, Balance: 3, Cap: 4}, {ID: 5, Owner: 6, Balance: 7, Cap: 8}},
		Clients:  []api.ClientSetup{{Id: 9, Resend: 1}, {Id: 3, Resend: most}, {Id: 9, Resend: 1}},
	}
	want := "cluster 1 2 3 4 5 6 7 8 9 10\naccount 5 6 7 8\naccount 1 2 3 4\naccount 5 6 7 8\nclient 9 1\nclient 3 18446744073709551615\nclient 9 1\n"
	if got := printed(t, s, nil); got != want {
		t.Errorf("%q, want %q", got, want)
	}
	setup, _ := parsed(t, "cluster 1 2 3 4 5 6 7 8 9 10\nclient 9 1\naccount 5 6 7 8\nclient 3 18446744073709551615\naccount 1 2 3 4\naccount 5 6 7 8\n\nclient 9 1")
	if got := printed(t, setup, nil); got != want {
		t.Errorf("read in another order: %q, want %q", got, want)
	}
}

// Bytes that are no command, or not in its one form, stand as they are.
func TestP18_2Raw(t *testing.T) {
	for want, data := range map[string][]byte{
		"raw -":                  nil,
		"raw 00":                 {0},
		"raw 0E":                 {14},
		"raw FF":                 {255},
		"raw 0D":                 {13},
		"look 7":                 {13, 7},
		"look 128":               {13, 0x80, 1},
		"raw 0D0700":             {13, 7, 0},    // a byte more
		"raw 0D8700":             {13, 0x87, 0}, // 7, written longer
		"raw 0D80":               {13, 0x80},
		"fund 7 0":               {5, 7, 0},
		"raw 0507":               {5, 7},
		"expire 7 127":           {10, 7, 127},
		"balance 0":              {12, 0},
		"enrol 2 3":              {1, 2, 3},
		"transfer 1 2 10":        {3, 1, 2, 10},
		"raw 04070102033205":     {4, 7, 1, 2, 3, 50, 5},
		"open 7 1 2 3 50 5":      {4, 7, 1, 2, 3, 50, 5, 0}, // terms without a byte
		"raw 0407010203320501FF": {4, 7, 1, 2, 3, 50, 5, 1, 255},
		"raw 0407010203320500FF": {4, 7, 1, 2, 3, 50, 5, 0, 255},
		"raw 040701020332050278": {4, 7, 1, 2, 3, 50, 5, 2, 'x'},

		`open 7 1 2 3 50 5 "xA"`:         {4, 7, 1, 2, 3, 50, 5, 2, 'x', 'A'},
		`open 7 1 2 3 50 5 "\"\\"`:       {4, 7, 1, 2, 3, 50, 5, 2, '"', '\\'},
		`open 7 1 2 3 50 5 "\n\t\x0D"`:   {4, 7, 1, 2, 3, 50, 5, 3, 10, 9, 13},
		`open 7 1 2 3 50 5 "\x1F ~\x7F"`: {4, 7, 1, 2, 3, 50, 5, 4, 31, 32, 126, 127},
	} {
		got := printed(t, houseSetup(), []api.Event{{Kind: api.ESend, Client: 9, Data: data}})
		if got != house+"send 9 "+want+"\n" {
			t.Errorf("%x: %q, want %q", data, got, want)
		}
	}
}

// A forged datagram is never told in words.
func TestP18_2Forge(t *testing.T) {
	got := printed(t, houseSetup(), []api.Event{{Kind: api.EForge, Client: 9, Data: []byte{13, 7}}})
	if got != house+"forge 9 0 0D07\n" {
		t.Errorf("%q", got)
	}
}

func TestP18_2Config(t *testing.T) {
	bad := []api.Event{{Kind: 99}}
	for what, turn := range map[string]func(g *api.Config){
		"F -1":           func(g *api.Config) { g.F = -1 },
		"F far below":    func(g *api.Config) { g.F = -1 << 63 },
		"MaxBatch -1":    func(g *api.Config) { g.MaxBatch = -1 },
		"MaxBatch below": func(g *api.Config) { g.MaxBatch = -1 << 63 },
		"both":           func(g *api.Config) { g.F, g.MaxBatch = -1, -1 },
	} {
		s := houseSetup()
		turn(&s.Config)
		noText(t, what, s, nil, api.ErrEngineText, 0)
		noText(t, what+", and an event", s, bad, api.ErrEngineText, 0)
		s.Accounts = make([]api.Account, 10000)
		noText(t, what+", and too long", s, bad, api.ErrEngineText, 0)
	}
}

// wrongEvents have no text, each for one reason.
func wrongEvents() []api.Event {
	list := []api.Event{{}, {Kind: -1}, {Kind: 14}, {Kind: 1 << 40}, {Kind: -1 << 63}}
	one := map[byte]api.Event{'N': {Node: 1}, 'C': {Client: 1}, 'I': {Index: 1}, 'K': {Count: 1}, 'D': {Data: []byte{0}}, 'T': {Tears: []api.WalTear{{}}}}
	for kind, used := range []string{"", "I", "I", "I", "NCD", "NK", "NK", "N", "NT", "N", "CD", "C", "K", "NKT"} {
		for field, e := range one {
			if e.Kind = api.EventKind(kind); !strings.Contains(used, string(rune(field))) {
				list = append(list, e)
			}
		}
		if strings.Contains(used, "N") {
			list = append(list, api.Event{Kind: api.EventKind(kind), Node: -2}, api.Event{Kind: api.EventKind(kind), Node: -1 << 63})
		}
		if strings.Contains(used, "N") && kind != 5 {
			list = append(list, api.Event{Kind: api.EventKind(kind), Node: -1})
		}
		if !strings.Contains(used, "N") {
			list = append(list, api.Event{Kind: api.EventKind(kind), Node: -1})
		}
		list = append(list, api.Event{Kind: api.EventKind(kind), Index: -1}, api.Event{Kind: api.EventKind(kind), Index: -1 << 63})
		for _, tear := range []api.WalTear{{Keep: -1}, {Keep: -1 << 63}, {Flip: -2}, {Flip: -1 << 63}, {Keep: -1, Flip: -1}} {
			list = append(list, api.Event{Kind: api.EventKind(kind), Tears: []api.WalTear{tear}}, api.Event{Kind: api.EventKind(kind), Tears: []api.WalTear{{}, {Keep: 1, Flip: -1}, tear}})
		}
	}
	return list
}

func TestP18_2Events(t *testing.T) {
	good := api.Event{Kind: api.ECalm, Count: 1}
	wide := houseSetup()
	wide.Accounts = make([]api.Account, 9000) // more than a script may have
	for _, e := range wrongEvents() {
		noText(t, "an event", houseSetup(), []api.Event{e}, api.ErrEngineText, 1)
		noText(t, "two events", houseSetup(), []api.Event{good, good, e, e, {}}, api.ErrEngineText, 3)
		noText(t, "an event of a text that is too long", wide, []api.Event{good, e}, api.ErrEngineText, 2)
	}
	many := make([]api.Event, 3000)
	for i := range many {
		many[i] = good
	}
	noText(t, "too many lines", houseSetup(), many, api.ErrEngineLong, 2001)
	many[2999].Node = 1
	noText(t, "too many lines, and an event that has none", houseSetup(), many, api.ErrEngineText, 3000)
}

// Any events, beside the chapter's list of those that have no text.
func TestP18_2AnyEvents(t *testing.T) {
	d := &dice{182}
	good, bad := 0, 0
	for range 20000 {
		e := d.odd()
		if !hasText(e) {
			noText(t, "an odd event", houseSetup(), []api.Event{{Kind: api.EStop}, e}, api.ErrEngineText, 2)
			bad++
			continue
		}
		if got, want := printed(t, houseSetup(), []api.Event{e}), house+secondEvent(e)+"\n"; got != want {
			t.Fatalf("%+v: %q, want %q", e, got, want)
		}
		good++
	}
	if good < 3000 || bad < 3000 {
		t.Errorf("%d with a text, %d without", good, bad)
	}
}

func TestP18_2Long(t *testing.T) {
	lines := func(n int) []api.Event {
		list := make([]api.Event, n)
		for i := range list {
			list[i] = api.Event{Kind: api.EStop}
		}
		return list
	}
	// 1999 lines, and the empty one behind them.
	if text := printed(t, houseSetup(), lines(1999-houseLines)); strings.Count(text, "\n") != 1999 {
		t.Errorf("%d line feeds", strings.Count(text, "\n"))
	}
	noText(t, "2000 lines and an empty one", houseSetup(), lines(2000-houseLines), api.ErrEngineLong, 2001)
	noText(t, "many lines", houseSetup(), lines(9000), api.ErrEngineLong, 2001)
	s := houseSetup()
	s.Accounts = make([]api.Account, 2000) // 16 bytes each
	noText(t, "many accounts", s, nil, api.ErrEngineLong, 2001)
	s.Accounts, s.Clients = nil, make([]api.ClientSetup, 2000)
	noText(t, "many clients", s, nil, api.ErrEngineLong, 2001)

	// 65536 bytes: the last line takes up what is left.
	room := 65536 - len(house) - len("send 1 raw \n")
	fill := func(n int) []api.Event { // so many bytes of data: an even number of digits
		return []api.Event{{Kind: api.ESend, Client: 1, Data: make([]byte, n)}}
	}
	for spare := range 3 {
		events := fill(room / 2)
		for range room%2 + spare { // a digit more of the client's number
			events[0].Client *= 10
		}
		want := 65536 + spare
		if spare == 0 {
			if text := printed(t, houseSetup(), events); len(text) != want {
				t.Errorf("%d bytes, want %d", len(text), want)
			}
			continue
		}
		noText(t, "bytes too many", houseSetup(), events, api.ErrEngineLong, 0)
	}
	noText(t, "a million bytes", houseSetup(), fill(1000000), api.ErrEngineLong, 0)
	// With too many of both the bytes come first.
	s = houseSetup()
	s.Accounts = make([]api.Account, 9000)
	noText(t, "too many bytes and lines", s, nil, api.ErrEngineLong, 0)
	noText(t, "too many bytes and lines of events", houseSetup(), lines(10000), api.ErrEngineLong, 0)
	if n := (65536 - len(house)) / len("stop 0\n"); n < 9000 || n > 9999 {
		t.Errorf("%d lines of stop fit", n)
	}
}
