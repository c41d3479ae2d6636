package engine

import (
	"strings"

	"quorum/api"
)

// script is a text that was read: the setup, the events, and the lines on which they stand.
type script struct {
	setup  api.Setup
	events []api.Event
	at     int   // the line that is being read, from 1 on
	head   int   // the cluster line; 0, if there was none yet
	lines  []int // that of each event
}

// line is what is left of a line's words. Each part takes its own off; one that can't be read makes the whole line wrong.
type line struct {
	words []string
	wrong bool
	fault error // what the layer below refuses of a command
}

// whole tells whether all words were read, and could be.
func (l *line) whole() bool { return !l.wrong && len(l.words) == 0 }

// next reads the next word.
func next[T any](l *line, from func(word string) (T, bool)) T {
	var none T
	if len(l.words) == 0 {
		l.wrong = true
		return none
	}
	value, ok := from(l.words[0])
	l.words = l.words[1:]
	if !ok {
		l.wrong = true
		return none
	}
	return value
}

// read reads a script's lines up to the first that can't be read (P18.1).
func read(text string) (*script, error) {
	if len(text) > api.MaxScript {
		return nil, refusal(0, api.ErrEngineLong)
	}
	if strings.Count(text, "\n") >= api.MaxLines {
		return nil, refusal(api.MaxLines+1, api.ErrEngineLong)
	}
	s := &script{}
	var wrong error
	forms := lineForms()
lines:
	for at, bytes := range strings.Split(text, "\n") {
		words, ok := cut(bytes)
		if len(words) == 0 || strings.HasPrefix(words[0], "#") {
			continue
		}
		s.at = at + 1
		for _, f := range forms {
			if f.word != words[0] {
				continue
			}
			if why := s.take(f, &line{words: words[1:], wrong: !ok}); why != nil {
				wrong = behind(s.at, why)
				break lines
			}
			continue lines
		}
		wrong = refusal(s.at, api.ErrEngineLine)
		break
	}
	if wrong == nil && s.head == 0 {
		wrong = refusal(0, api.ErrEngineHead)
	}
	if wrong != nil {
		return nil, wrong
	}
	return s, nil
}

// take reads a line by its form, and gives the first reason against it.
func (s *script) take(f lineForm, l *line) error {
	if f.shut(s) {
		return api.ErrEngineOrder
	}
	f.read(s, l)
	if !l.whole() {
		return api.ErrEngineWord
	}
	return l.fault
}

// begun tells whether the cluster line was read.
func (s *script) begun() bool { return s.head > 0 }

// headless tells whether it was not.
func (s *script) headless() bool { return s.head == 0 }

// settled tells whether the setup can't grow: not yet, or, behind an event, no more.
func (s *script) settled() bool { return s.headless() || len(s.events) > 0 }

func (s *script) cluster(l *line) {
	s.head = s.at
	g := &s.setup.Config
	g.F = next(l, intOf)
	g.MaxBatch = next(l, intOf)
	for _, n := range wide(g) {
		*n = next(l, numberOf)
	}
}

// wide gives the places of a configuration's numbers, in the line's order, but for the two that are ints.
func wide(g *api.Config) []*uint64 {
	return []*uint64{&g.Delay, &g.Window, &g.Every, &g.Beat, &g.Epoch, &g.EpochMax, &g.MaxNum, &g.MaxSlot}
}

func (s *script) account(l *line) {
	var a api.Account
	for _, n := range []*uint64{&a.ID, &a.Owner, &a.Balance, &a.Cap} {
		*n = next(l, numberOf)
	}
	s.setup.Accounts = append(s.setup.Accounts, a)
}

func (s *script) client(l *line) {
	var c api.ClientSetup
	c.Id = next(l, numberOf)
	c.Resend = next(l, numberOf)
	s.setup.Clients = append(s.setup.Clients, c)
}

func (s *script) event(f eventForm, l *line) {
	e := api.Event{Kind: f.kind}
	for _, p := range f.parts {
		p.read(l, &e)
	}
	s.events = append(s.events, e)
	s.lines = append(s.lines, s.at)
}
