package engine

import (
	"strconv"
	"strings"

	"quorum/api"
)

// page gathers lines.
type page struct {
	text  strings.Builder
	lines int
}

// line adds a line of these words, one blank between them.
func (p *page) line(words ...string) {
	for at, word := range words {
		if at > 0 {
			p.text.WriteByte(' ')
		}
		p.text.WriteString(word)
	}
	p.text.WriteByte('\n')
	p.lines++
}

// sheet is a page for a script, which must not become too long.
type sheet struct{ page }

// tooLong tells whether there are more bytes than a script may have.
func (s *sheet) tooLong() bool { return s.text.Len() > api.MaxScript }

// add adds a line. Once there are too many bytes it makes no difference how many more there are: they need no room.
func (s *sheet) add(words ...string) {
	if !s.tooLong() {
		s.line(words...)
	}
}

// setup adds the lines of a setup.
func (s *sheet) setup(setup api.Setup) {
	g := &setup.Config
	words := []string{"cluster", strconv.Itoa(g.F), strconv.Itoa(g.MaxBatch)}
	for _, n := range wide(g) {
		words = append(words, digits(*n))
	}
	s.add(words...)
	for _, a := range setup.Accounts {
		s.add("account", digits(a.ID), digits(a.Owner), digits(a.Balance), digits(a.Cap))
	}
	for _, c := range setup.Clients {
		s.add("client", digits(c.Id), digits(c.Resend))
	}
}

// script gives the text, if it is none too long. Behind its last line feed there is one more line, which is empty.
func (s *sheet) script() (string, error) {
	if s.tooLong() {
		return "", refusal(0, api.ErrEngineLong)
	}
	if s.lines+1 > api.MaxLines {
		return "", refusal(api.MaxLines+1, api.ErrEngineLong)
	}
	return s.text.String(), nil
}

// eventWords writes an event; false, if it has no text.
func eventWords(e api.Event) ([]string, bool) {
	for _, f := range eventForms() {
		if f.kind == e.Kind {
			return f.words(e)
		}
	}
	return nil, false
}

// words writes an event of this form.
func (f eventForm) words(e api.Event) ([]string, bool) {
	words := []string{f.word}
	r := rest(e)
	for _, p := range f.parts {
		more, ok := p.write(&r)
		if !ok {
			return nil, false
		}
		words = append(words, more...)
	}
	return words, r.empty()
}
