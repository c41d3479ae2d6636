package engine_test

import (
	"errors"
	"strings"
	"testing"

	"quorum/api"
	"quorum/engine"
)

// Lines of any kind, beside a second reading.
func TestP18_1SecondReading(t *testing.T) {
	d := &dice{181}
	counts := map[string]int{}
	for range 60000 {
		text := head + d.line()
		if d.below(3) == 0 {
			text = d.script()
		}
		want, at, why := secondRead(text)
		setup, events, err := engine.Parse(text)
		if why != nil {
			isFault(t, text, err, why, at)
			if !same(setup, api.Setup{}) || events != nil {
				t.Errorf("%q: %+v %+v beside a refusal", text, setup, events)
			}
			var number api.Errno
			errors.As(why, &number)
			counts[number.Error()]++
		} else if err != nil || !same(setup, want.setup) || !same(events, want.events) {
			t.Errorf("%q: %+v %+v %v, want %+v", text, setup, events, err, want)
		} else {
			counts["read"]++
		}
		if t.Failed() {
			t.FailNow()
		}
	}
	for _, what := range []string{"read", api.ErrEngineLine.Error(), api.ErrEngineOrder.Error(), api.ErrEngineWord.Error(), api.ErrWireText.Error(), api.ErrWireLong.Error()} {
		if counts[what] < 200 {
			t.Errorf("only %d times %s: %v", counts[what], what, counts)
		}
	}
}

// Whatever has a text is read back as it was, and is written so again.
func TestP18_3Printed(t *testing.T) {
	d := &dice{183}
	for range 4000 {
		setup := d.setup()
		var events []api.Event
		for range d.below(12) {
			events = append(events, d.event())
		}
		text := printed(t, setup, events)
		if want := secondPrint(setup, events); text != want {
			t.Fatalf("Print: %q, want %q", text, want)
		}
		again, list := parsed(t, text)
		if !same(again, setup) || !same(list, events) {
			t.Fatalf("%q is read as %+v %+v, want %+v %+v", text, again, list, setup, events)
		}
		if twice := printed(t, again, list); twice != text {
			t.Fatalf("%q is written as %q", text, twice)
		}
	}
}

// Empty lists are read back as nil.
func TestP18_3Empty(t *testing.T) {
	setup := houseSetup()
	setup.Accounts, setup.Clients = []api.Account{}, []api.ClientSetup{}
	events := []api.Event{{Kind: api.ESend, Data: []byte{}}, {Kind: api.ECrash, Tears: []api.WalTear{}}, {Kind: api.ECalm, Data: []byte{}, Tears: []api.WalTear{}}}
	text := printed(t, setup, events)
	if want := head + "send 0 raw -\ncrash 0\ncalm 0\n"; text != want {
		t.Errorf("%q, want %q", text, want)
	}
	setup.Accounts, setup.Clients = nil, nil
	again, list := parsed(t, text)
	if !same(again, setup) || !same(list, []api.Event{{Kind: api.ESend}, {Kind: api.ECrash}, {Kind: api.ECalm}}) {
		t.Errorf("%+v %+v", again, list)
	}
	if text = printed(t, setup, []api.Event{}); text != head {
		t.Errorf("%q, want %q", text, head)
	}
}

// What was read is written in the one form, which is read as the same.
func TestP18_3Read(t *testing.T) {
	d := &dice{1833}
	read := 0
	for range 20000 {
		text := d.script()
		setup, events, err := engine.Parse(text)
		if err != nil {
			continue
		}
		read++
		form := printed(t, setup, events)
		again, list := parsed(t, form)
		if !same(again, setup) || !same(list, events) {
			t.Fatalf("%q, written as %q, is read as %+v %+v, want %+v %+v", text, form, again, list, setup, events)
		}
	}
	if read < 4000 {
		t.Errorf("only %d scripts were read", read)
	}
}

// A text that is read, but whose one form is too long.
func TestP18_3Longer(t *testing.T) {
	long := "send 1 open 7 1 2 3 50 900 \"" + strings.Repeat("\\x22\\x5C\\x0A\\x09", 31) + "\"\n"
	setup, events := parsed(t, head+strings.Repeat(long, 100))
	if text := printed(t, setup, events); len(text) >= 100*len(long) || !strings.Contains(text, `900 "\"\\\n\t\"`) {
		t.Errorf("%q", text)
	}
	raw := "send 1 raw " + "0D07\n" // look 7, in shorter words
	setup, events = parsed(t, head+strings.Repeat(raw, 1998))
	if text := printed(t, setup, events); text != head+strings.Repeat("send 1 look 7\n", 1998) {
		t.Errorf("%q", text)
	}
	full := head + strings.Repeat("calm 1\n", 1998) + "calm 1" // 2000 lines; with a line feed behind the last there are 2001
	setup, events = parsed(t, full)
	text, err := engine.Print(setup, events)
	isFault(t, "one line more", err, api.ErrEngineLong, 2001)
	if text != "" {
		t.Errorf("%q beside a refusal", text)
	}
	wide := head + "forge 1 1 "
	if len(wide)%2 == 1 {
		wide = head + "forge 10 1 "
	}
	wide += strings.Repeat("00", (65536-len(wide))/2)
	if setup, events = parsed(t, wide); len(wide) != 65536 || len(events) != 1 {
		t.Fatalf("%d bytes, %d events", len(wide), len(events))
	}
	text, err = engine.Print(setup, events)
	isFault(t, "one line feed more", err, api.ErrEngineLong, 0)
	if text != "" {
		t.Errorf("%d bytes beside a refusal", len(text))
	}
}

// What is handed in is not changed, and what comes out is new memory.
func TestP18Own(t *testing.T) {
	d := &dice{18}
	setup := d.setup()
	var events []api.Event
	for range 60 {
		events = append(events, d.event())
	}
	text := printed(t, setup, events)
	again, list := parsed(t, text)
	other, others := parsed(t, text)
	for i := range list {
		for _, part := range [][]byte{list[i].Data} {
			spoil(part[:cap(part)])
		}
		for j := range list[i].Tears {
			list[i].Tears[j] = api.WalTear{File: 99}
		}
		list[i].Tears = append(list[i].Tears, api.WalTear{File: 98})
	}
	for i := range again.Accounts {
		again.Accounts[i].ID++
	}
	if !same(other, setup) || !same(others, events) {
		t.Errorf("two answers share memory: %+v %+v, want %+v %+v", other, others, setup, events)
	}
	if printed(t, setup, events) != text {
		t.Errorf("Print has changed what it was given")
	}
}

// spoil turns all bytes.
func spoil(b []byte) {
	for i := range b {
		b[i] ^= 255
	}
}
