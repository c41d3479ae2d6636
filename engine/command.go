package engine

import (
	"bytes"

	"quorum/api"
	"quorum/deal"
)

// rawWord begins a command that is told by its bytes.
const rawWord = "raw"

// command reads a command's words.
func (l *line) command(e *api.Event) {
	word := next(l, func(word string) (string, bool) { return word, true })
	if word == rawWord {
		l.data(e)
		return
	}
	for _, f := range commandForms() {
		if f.word == word {
			e.Data = l.packed(f.read(l))
			return
		}
	}
	l.wrong = true
}

// read reads the numbers of a command, and its terms.
func (f commandForm) read(l *line) api.Cmd {
	c := api.Cmd{Verb: f.verb}
	for _, place := range f.fields {
		*place(&c) = next(l, numberOf)
	}
	if f.verb == api.VOpen && len(l.words) > 0 {
		c.Terms = next(l, termsOf)
	}
	return c
}

// packed gives a command's bytes. A line that is wrong is not asked for them: that its words are wrong comes first.
func (l *line) packed(c api.Cmd) []byte {
	if !l.whole() {
		return nil
	}
	data, err := deal.Pack(c)
	l.fault = err
	return data
}

func (r *rest) command() ([]string, bool) {
	data := r.Data
	r.Data = nil
	return commandWords(data), true
}

// commandWords writes a command in its words, or by its bytes if it has none.
func commandWords(data []byte) []string {
	c := commandOf(data)
	for _, f := range commandForms() {
		if f.verb == c.Verb {
			return f.words(c)
		}
	}
	return []string{rawWord, hex(data)}
}

// commandOf gives the command that is packed into just these bytes; one without a verb, if there is none.
func commandOf(data []byte) api.Cmd {
	c, err := deal.Unpack(data)
	if err != nil {
		return api.Cmd{}
	}
	again, err := deal.Pack(c)
	if err != nil || !bytes.Equal(again, data) {
		return api.Cmd{}
	}
	return c
}

// words writes a command of this form.
func (f commandForm) words(c api.Cmd) []string {
	words := []string{f.word}
	for _, place := range f.fields {
		words = append(words, digits(*place(&c)))
	}
	if c.Terms != "" {
		words = append(words, quoted(c.Terms))
	}
	return words
}
