package code

import (
	"strconv"
	"strings"

	"quorum/api"
)

// List writes a program as text (P4.8).
func List(p api.Program) (string, error) {
	if err := Verify(p); err != nil {
		return "", err
	}
	var l listing
	for at, n := range p.Consts {
		l.line("const", strconv.Itoa(at), strconv.FormatUint(n, 10))
	}
	for at, kind := range p.Slots {
		l.line("slot", strconv.Itoa(at), kindWord(kind))
	}
	for event, at := range p.Entry {
		if at >= 0 {
			l.line("on", events[event], strconv.Itoa(at))
		}
	}
	for at, ins := range p.Ins {
		l.instruction(at, ins)
	}
	return l.out.String(), nil
}

// listing is a text of lines.
type listing struct{ out strings.Builder }

// line writes the parts one space apart.
func (l *listing) line(parts ...string) {
	l.out.WriteString(strings.Join(parts, " "))
	l.out.WriteString("\n")
}

func (l *listing) instruction(at int, ins api.Ins) {
	place, word := strconv.Itoa(at), words[ins.Op]
	switch forms[ins.Op].arg {
	case noArg:
		l.line(place, word)
	case anInput:
		l.line(place, word, inputs[ins.Arg].name)
	default:
		l.line(place, word, strconv.Itoa(ins.Arg))
	}
}

// kindWord gives the word for a slot's kind.
func kindWord(kind int) string {
	if kind == api.KindBool {
		return "bool"
	}
	return "num"
}
