package engine

import (
	"math"
	"strconv"
	"strings"
)

// blanks are the bytes between words.
const blanks = "\t\r "

// hexDigits are the digits of a byte, each at its value.
const hexDigits = "0123456789ABCDEF"

// cut gives the words of a line, and whether each of them ends where it may. Behind one that does not there are none.
func cut(text string) ([]string, bool) {
	var words []string
	for {
		text = strings.TrimLeft(text, blanks)
		if text == "" {
			return words, true
		}
		end, ok := wordEnd(text)
		words = append(words, text[:end])
		if !ok {
			return words, false
		}
		text = text[end:]
	}
}

// wordEnd tells where the first word of a text ends, and whether it may end there.
func wordEnd(text string) (int, bool) {
	if text[0] == '"' {
		return quotedEnd(text)
	}
	if end := strings.IndexAny(text, blanks); end >= 0 {
		return end, true
	}
	return len(text), true
}

// quotedEnd tells the same of a word that begins with a quote.
func quotedEnd(text string) (int, bool) {
	for i := 1; i < len(text); i++ {
		switch text[i] {
		case '\\':
			i++ // the byte behind it belongs to it, a quote too
		case '"':
			end := i + 1
			return end, end == len(text) || strings.IndexByte(blanks, text[end]) >= 0
		}
	}
	return len(text), false
}

// numberOf reads a number. There is one way to write it: without a sign, and without zeros ahead of it.
func numberOf(word string) (uint64, bool) {
	n, err := strconv.ParseUint(word, 10, 64)
	return n, err == nil && digits(n) == word
}

// intOf reads a number that goes into an int.
func intOf(word string) (int, bool) {
	n, ok := numberOf(word)
	return int(n), ok && n <= math.MaxInt64
}

// digits writes a number.
func digits(n uint64) string { return strconv.FormatUint(n, 10) }

// bytesOf reads bytes, two digits each.
func bytesOf(word string) ([]byte, bool) {
	if word == "-" {
		return nil, true
	}
	var data []byte
	for ; len(word) > 1; word = word[2:] {
		b, ok := byteOf(word)
		if !ok {
			return nil, false
		}
		data = append(data, b)
	}
	return data, word == ""
}

// byteOf reads the two digits at the beginning of a text.
func byteOf(text string) (byte, bool) {
	if len(text) < 2 {
		return 0, false
	}
	high, low := strings.IndexByte(hexDigits, text[0]), strings.IndexByte(hexDigits, text[1])
	return byte(high<<4 | low), high >= 0 && low >= 0
}

// hex writes bytes, two digits each.
func hex(data []byte) string {
	if len(data) == 0 {
		return "-"
	}
	var b strings.Builder
	for _, c := range data {
		b.WriteByte(hexDigits[c>>4])
		b.WriteByte(hexDigits[c&15])
	}
	return b.String()
}

// termsOf reads a quoted word with a byte at least: that of no terms does not stand in a script.
func termsOf(word string) (string, bool) {
	text, ok := strings.CutPrefix(word, `"`)
	if !ok {
		return "", false
	}
	text, ok = strings.CutSuffix(text, `"`)
	var b strings.Builder
	for ok && text != "" {
		c, size := signOf(text)
		b.WriteByte(c)
		text, ok = text[size:], size > 0
	}
	return b.String(), ok && b.Len() > 0
}

// signOf reads the byte that the beginning of a quoted text stands for, and tells how long that beginning is; 0, if it stands for none.
func signOf(text string) (byte, int) {
	c := text[0]
	switch {
	case c < 32 || c > 126 || c == '"':
		return 0, 0
	case c != '\\':
		return c, 1
	case len(text) == 1:
		return 0, 0
	}
	switch text[1] {
	case '"', '\\':
		return text[1], 2
	case 'n':
		return '\n', 2
	case 't':
		return '\t', 2
	case 'x':
		if b, ok := byteOf(text[2:]); ok {
			return b, 4
		}
	}
	return 0, 0
}

// quoted writes a text as a quoted word.
func quoted(text string) string {
	var b strings.Builder
	b.WriteByte('"')
	for i := range len(text) {
		b.WriteString(sign(text[i]))
	}
	b.WriteByte('"')
	return b.String()
}

// sign writes a byte of a quoted word.
func sign(c byte) string {
	switch {
	case c == '"' || c == '\\':
		return `\` + string(rune(c))
	case c == '\n':
		return `\n`
	case c == '\t':
		return `\t`
	case c < 32 || c > 126:
		return `\x` + hex([]byte{c})
	}
	return string(rune(c))
}
