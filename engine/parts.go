package engine

import (
	"strconv"
	"strings"

	"quorum/api"
)

// Each part of an event's line has a method of line that reads it, and one of rest that writes it.

// The words that stand for numbers below 0.
const (
	allWord  = "all" // every replica
	allNodes = -1

	noFlipWord = "-" // no bit is turned
	noFlip     = -1
)

// rest is what is left of an event that is being written: a part takes its field out. So a field that the kind does not use is left at the end.
type rest api.Event

// empty tells whether nothing is left.
func (r *rest) empty() bool {
	return r.Node == 0 && r.Client == 0 && r.Index == 0 && r.Count == 0 && len(r.Data) == 0 && len(r.Tears) == 0
}

// intWord writes an int, if it is none below 0.
func intWord(n int) ([]string, bool) { return []string{strconv.Itoa(n)}, n >= 0 }

func (l *line) index(e *api.Event) { e.Index = next(l, intOf) }

func (r *rest) index() ([]string, bool) {
	n := r.Index
	r.Index = 0
	return intWord(n)
}

func (l *line) node(e *api.Event) { e.Node = next(l, intOf) }

func (r *rest) node() ([]string, bool) {
	n := r.Node
	r.Node = 0
	return intWord(n)
}

func (l *line) nodes(e *api.Event) { e.Node = next(l, nodesOf) }

// nodesOf reads a replica's number, or the word for all of them.
func nodesOf(word string) (int, bool) {
	if word == allWord {
		return allNodes, true
	}
	return intOf(word)
}

func (r *rest) nodes() ([]string, bool) {
	if r.Node == allNodes {
		r.Node = 0
		return []string{allWord}, true
	}
	return r.node()
}

func (l *line) client(e *api.Event) { e.Client = next(l, numberOf) }

func (r *rest) client() ([]string, bool) {
	n := r.Client
	r.Client = 0
	return []string{digits(n)}, true
}

func (l *line) count(e *api.Event) { e.Count = next(l, numberOf) }

func (r *rest) count() ([]string, bool) {
	n := r.Count
	r.Count = 0
	return []string{digits(n)}, true
}

func (l *line) data(e *api.Event) { e.Data = next(l, bytesOf) }

func (r *rest) data() ([]string, bool) {
	data := r.Data
	r.Data = nil
	return []string{hex(data)}, true
}

// tears reads all words that are left.
func (l *line) tears(e *api.Event) {
	for len(l.words) > 0 {
		e.Tears = append(e.Tears, next(l, tearOf))
	}
}

// tearOf reads a tear: three numbers, or two and the word for no bit.
func tearOf(word string) (api.WalTear, bool) {
	var tear api.WalTear
	numbers := strings.Split(word, ":")
	if len(numbers) != 3 {
		return tear, false
	}
	l := &line{words: numbers}
	tear.File = next(l, numberOf)
	tear.Keep = next(l, intOf)
	tear.Flip = next(l, flipOf)
	return tear, l.whole()
}

// flipOf reads the number of a bit, or the word for none.
func flipOf(word string) (int, bool) {
	if word == noFlipWord {
		return noFlip, true
	}
	return intOf(word)
}

func (r *rest) tears() ([]string, bool) {
	var words []string
	for _, tear := range r.Tears {
		if tear.Keep < 0 || tear.Flip < noFlip {
			return nil, false
		}
		words = append(words, tearWord(tear))
	}
	r.Tears = nil
	return words, true
}

// tearWord writes a tear.
func tearWord(tear api.WalTear) string {
	flip := noFlipWord
	if tear.Flip != noFlip {
		flip = strconv.Itoa(tear.Flip)
	}
	return digits(tear.File) + ":" + strconv.Itoa(tear.Keep) + ":" + flip
}
