package terms

import (
	"strconv"
	"strings"

	"quorum/api"
)

// tokenKind tells tokens apart.
type tokenKind int

const (
	endToken    tokenKind = iota // the text is over
	fixedToken                   // a keyword or a mark
	nameToken                    // any other word
	numberToken                  // num is its value
)

// token is a piece of a text that has a meaning, and the offset of its first byte.
type token struct {
	kind tokenKind
	text string
	num  uint64
	at   int
}

// wrong is what reading gives up with.
type wrong struct {
	at  int
	why api.Errno
}

// cut gives a text's tokens, and behind them the one that stands for its end.
func cut(src string) []token {
	var tokens []token
	at := 0
cutting:
	for at < len(src) {
		c := src[at]
		switch {
		case isBlank(c):
			at++
			continue cutting
		case c == '#':
			for ; at < len(src); at++ {
				if src[at] == '\n' {
					continue cutting
				}
			}
			break cutting
		case isLetter(c) || isDigit(c):
			t := runToken(src[at:at+runLength(src[at:])], at)
			tokens = append(tokens, t)
			at += len(t.text)
			continue cutting
		}
		for _, m := range marks {
			if strings.HasPrefix(src[at:], m) {
				tokens = append(tokens, token{kind: fixedToken, text: m, at: at})
				at += len(m)
				continue cutting
			}
		}
		panic(wrong{at, api.ErrTermsToken})
	}
	return append(tokens, token{kind: endToken, at: len(src)})
}

func isBlank(c byte) bool { return c == '\t' || c == '\n' || c == '\r' || c == ' ' }

func isLetter(c byte) bool { return 'a' <= c && c <= 'z' }

func isDigit(c byte) bool { return '0' <= c && c <= '9' }

// runLength tells how many letters and digits a text begins with.
func runLength(text string) int {
	n := 0
	for n < len(text) && (isLetter(text[n]) || isDigit(text[n])) {
		n++
	}
	return n
}

// runToken gives the token that a run of letters and digits is.
func runToken(run string, at int) token {
	if isLetter(run[0]) {
		return wordToken(run, at)
	}
	num, err := strconv.ParseUint(run, 10, 64)
	if err != nil || run[0] == '0' && len(run) > 1 {
		panic(wrong{at, api.ErrTermsToken})
	}
	return token{kind: numberToken, text: run, num: num, at: at}
}

// wordToken gives the token of a run that begins with a letter.
func wordToken(run string, at int) token {
	switch {
	case len(run) > api.MaxTermsName:
		panic(wrong{at, api.ErrTermsToken})
	case isKeyword(run):
		return token{kind: fixedToken, text: run, at: at}
	}
	return token{kind: nameToken, text: run, at: at}
}

// isName tells whether a text is a name by the rule of tokens.
func isName(text string) bool {
	return text != "" && len(text) <= api.MaxTermsName && isLetter(text[0]) && runLength(text) == len(text) && !isKeyword(text)
}
