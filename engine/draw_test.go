package engine_test

import (
	"strconv"
	"strings"

	"quorum/api"
	"quorum/deal"
)

// This file draws scripts, as data and as text.

// number draws one, small or at an edge.
func (d *dice) number() uint64 {
	return one(d, uint64(d.below(10)), uint64(d.below(1000)), d.next(), 0, 1<<63-1, 1<<63, most)
}

// small draws a number that is an int.
func (d *dice) small() int { return int(d.number() & (1<<63 - 1)) }

// setup draws any setup.
func (d *dice) setup() api.Setup {
	var s api.Setup
	g := &s.Config
	g.F, g.MaxBatch = d.small(), d.small()
	for _, n := range []*uint64{&g.Delay, &g.Window, &g.Every, &g.Beat, &g.Epoch, &g.EpochMax, &g.MaxNum, &g.MaxSlot} {
		*n = d.number()
	}
	for range d.below(4) {
		s.Accounts = append(s.Accounts, api.Account{ID: d.number(), Owner: d.number(), Balance: d.number(), Cap: d.number()})
	}
	for range d.below(4) {
		s.Clients = append(s.Clients, api.ClientSetup{Id: d.number(), Resend: d.number()})
	}
	return s
}

// event draws any event that has a text.
func (d *dice) event() api.Event {
	e := api.Event{Kind: api.EventKind(1 + d.below(13))}
	switch e.Kind {
	case api.EDeliver, api.EDrop, api.ECopy:
		e.Index = d.small()
	case api.EForge:
		e.Node, e.Client, e.Data = d.small(), d.number(), d.bytes(8)
	case api.ETick:
		e.Node, e.Count = one(d, -1, d.small()), d.number()
	case api.EStep:
		e.Node, e.Count = d.small(), d.number()
	case api.EStop, api.ERestart:
		e.Node = d.small()
	case api.ECrash:
		e.Node, e.Tears = d.small(), d.tears()
	case api.EFuse:
		e.Node, e.Count, e.Tears = d.small(), d.number(), d.tears()
	case api.ESend:
		e.Client, e.Data = d.number(), d.command()
	case api.EAgain:
		e.Client = d.number()
	case api.ECalm:
		e.Count = d.number()
	}
	return e
}

func (d *dice) tears() []api.WalTear {
	var list []api.WalTear
	for range d.below(4) {
		list = append(list, api.WalTear{File: d.number(), Keep: d.small(), Flip: one(d, -1, d.small())})
	}
	return list
}

// command draws a command's bytes, or any others.
func (d *dice) command() []byte {
	c := api.Cmd{Verb: api.Verb(1 + d.below(13))}
	switch n := []uint64{d.number(), d.number(), d.number()}; c.Verb {
	case api.VEnrol:
		c.Acct, c.Amount = n[0], n[1]
	case api.VClose, api.VBalance:
		c.Acct = n[0]
	case api.VTransfer:
		c.Acct, c.To, c.Amount = n[0], n[1], n[2]
	case api.VOpen:
		c.Deal, c.Acct, c.To, c.Arbiter, c.Amount, c.Due, c.Terms = n[0], n[1], n[2], d.number(), d.number(), d.number(), d.text()
	case api.VCallOff, api.VLook:
		c.Deal = n[0]
	default:
		c.Deal, c.Amount = n[0], n[1]
	}
	data, err := deal.Pack(c)
	if err != nil {
		panic(err)
	}
	switch d.below(6) {
	case 0:
		return d.bytes(6)
	case 1:
		return append(data, d.bytes(2)...)
	case 2:
		data[d.below(len(data))] ^= 1 << d.below(8)
	}
	return data
}

// text draws one of UTF-8.
func (d *dice) text() string {
	var b strings.Builder
	for range d.below(9) {
		b.WriteRune(one(d, 'x', ' ', '"', '\\', '\n', '\t', '\r', 0, 31, 126, 127, 'é', '€', '\U0001F600', rune(d.below(128))))
	}
	return b.String()
}

// odd draws an event that may have no text.
func (d *dice) odd() api.Event {
	e := d.event()
	for range 1 + d.below(2) {
		switch d.below(9) {
		case 0:
			e.Kind = api.EventKind(d.below(18) - 2)
		case 1:
			e.Node = one(d, -1, -2, -1<<63, 1)
		case 2:
			e.Index = one(d, -1, -1<<63, 1)
		case 3:
			e.Count = one[uint64](d, 0, 1)
		case 4:
			e.Client = one[uint64](d, 0, 1)
		case 5:
			e.Data = one(d, []byte{}, []byte{0})
		case 6:
			e.Tears = one(d, []api.WalTear{}, []api.WalTear{{}}, []api.WalTear{{Keep: -1}}, []api.WalTear{{Flip: -1}}, []api.WalTear{{Flip: -2}}, []api.WalTear{{}, {Flip: -1 << 63}})
		}
	}
	return e
}

// words are some that stand in scripts, and some that do not.
var words = []string{"cluster", "account", "client", "deliver", "drop", "copy", "forge", "tick", "step", "stop", "restart", "crash", "fuse", "send", "again", "calm", "all",
	"enrol", "close", "transfer", "open", "fund", "release", "dispute", "arbitrate", "refund", "expire", "calloff", "balance", "look", "raw",
	"0", "1", "7", "256", "01", "9223372036854775807", "9223372036854775808", "18446744073709551615", "18446744073709551616", "-", "00", "FF00", "0a", "1:2:3", "1:2:-", "1:-:3", "1:2",
	`""`, `"x"`, `"\n"`, `"\q"`, `"`, `"\xFF"`, `"\xC3\xA9"`, `"a b"`, `"a`, "#", "x", ""}

// line draws a line of any words, or one of a script that is then spoilt.
func (d *dice) line() string {
	if d.below(4) == 0 {
		var list []string
		for range d.below(6) {
			list = append(list, one(d, words...))
		}
		return strings.Join(list, " ")
	}
	if d.below(12) == 0 { // terms that layer 5 refuses
		return "send 1 open 7 1 2 3 50 900 " + secondQuoted(one(d, d.text()+strings.Repeat("x", 510+d.below(5)), "\xff"+d.text(), d.text()+string(d.bytes(3))))
	}
	line := secondEvent(d.event())
	if d.below(4) == 0 {
		return line
	}
	list := strings.Split(line, " ")
	at := d.below(len(list))
	switch d.below(5) {
	case 0:
		list[at] = one(d, words...)
	case 1:
		list = append(list[:at], list[at+1:]...)
	case 2:
		list = append(list, one(d, words...))
	case 3:
		list[at] += one(d, "0", " ", "\t", "\"", "\\", ":", "x", "\r", "\x00")
	case 4:
		return d.spoilt(line)
	}
	return strings.Join(list, one(d, " ", "  ", "\t"))
}

// spoilt turns a byte of a text into another, or takes it out, or lays one beside it.
func (d *dice) spoilt(text string) string {
	at := d.below(len(text))
	c := one(d, "0", "9", " ", "\t", "\r", "\n", "\"", "\\", "#", ":", "-", "A", "F", "a", "x", "\x00", "\x7f", "\xff", "é")
	return one(d, text[:at]+c+text[at+1:], text[:at]+text[at+1:], text[:at]+c+text[at:])
}

// script draws the text of one, in which a line may be wrong.
func (d *dice) script() string {
	s := d.setup()
	var lines []string
	lines = append(lines, strings.Split(strings.TrimSuffix(secondPrint(s, nil), "\n"), "\n")...)
	for range d.below(5) {
		lines = append(lines, secondEvent(d.event()))
	}
	for range d.below(3) {
		at := d.below(len(lines) + 1)
		lines = append(lines[:at], append([]string{one(d, d.line(), "", "  ", "# "+strconv.Itoa(at), secondEvent(d.event()), "account 1 2 3 4", "client 1 2")}, lines[at:]...)...)
	}
	text := strings.Join(lines, one(d, "\n", "\n", "\r\n", "\n\n"))
	if d.below(3) == 0 {
		text = d.spoilt(text)
	}
	return text
}
