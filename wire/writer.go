package wire

import (
	"strings"

	"quorum/api"
)

// Writer lays fields down, one behind the other (P1.4).
type Writer struct {
	firstFault
	most int
	laid []byte
}

// NewWriter makes a writer that takes up to most bytes.
func NewWriter(most int) *Writer {
	return &Writer{firstFault: firstFault{made: true}, most: min(max(most, 0), api.MaxFrame)}
}

// U8 lays a byte down.
func (w *Writer) U8(v uint8) { w.fixed(uint64(v), 1) }

// U16 lays two bytes down, the high one first.
func (w *Writer) U16(v uint16) { w.fixed(uint64(v), 2) }

// U32 lays four bytes down, the high one first.
func (w *Writer) U32(v uint32) { w.fixed(uint64(v), 4) }

// U64 lays eight bytes down, the high one first.
func (w *Writer) U64(v uint64) { w.fixed(v, 8) }

// Num lays a number down in as few bytes as it needs.
func (w *Writer) Num(v uint64) {
	if w.takes(numSize(v), api.OK) {
		w.laid = appendNum(w.laid, v)
	}
}

// Flag lays a truth down.
func (w *Writer) Flag(v bool) {
	if v {
		w.U8(1)
	} else {
		w.U8(0)
	}
}

// Count lays the length of a list down.
func (w *Writer) Count(n int, most int) {
	if w.takes(numSize(uint64(n)), countFault(n, most)) {
		w.laid = appendNum(w.laid, uint64(n))
	}
}

// Blob lays bytes down, their number ahead.
func (w *Writer) Blob(b []byte, most int) {
	n := uint64(len(b))
	if w.takes(numSize(n)+len(b), countFault(len(b), most)) {
		w.laid = append(appendNum(w.laid, n), b...)
	}
}

// Text lays a text down, the number of its bytes ahead.
func (w *Writer) Text(s string, most int) {
	n := uint64(len(s))
	if w.takes(numSize(n)+len(s), textFault(s, most)) {
		w.laid = append(appendNum(w.laid, n), s...)
	}
}

// Len tells how many bytes are laid down.
func (w *Writer) Len() int {
	if w == nil {
		return 0
	}
	return len(w.laid)
}

// Bytes gives what is laid down, or the first fault.
func (w *Writer) Bytes() ([]byte, error) {
	if w == nil {
		return nil, refusal(0, api.ErrZero)
	}
	if err := w.told(); err != nil {
		return nil, err
	}
	return copied(w.laid), nil
}

// fixed lays a number down in just so many bytes.
func (w *Writer) fixed(v uint64, size int) {
	if w.takes(size, api.OK) {
		w.laid = appendHigh(w.laid, v, size)
	}
}

// takes tells whether a field of that size is to be laid down, and notes why not. The field's own refusal goes ahead of the want of room.
func (w *Writer) takes(size int, own api.Errno) bool {
	if w == nil || !w.sound() {
		return false
	}
	switch {
	case own != api.OK:
		w.fail(len(w.laid), own)
	case size > w.most-len(w.laid):
		w.fail(len(w.laid), api.ErrWireLong)
	}
	return w.sound()
}

// countFault looks at a length. One below 0 can't be, whatever is let through.
func countFault(n, most int) api.Errno {
	if n < 0 || n > most {
		return api.ErrWireLong
	}
	return api.OK
}

// textFault looks at a text: its length goes ahead of its bytes.
func textFault(s string, most int) api.Errno {
	switch {
	case len(s) > most:
		return api.ErrWireLong
	case !isText(s):
		return api.ErrWireText
	}
	return api.OK
}

// isText tells whether the bytes are UTF-8. Range shows a byte that belongs to no rune as U+FFFD, so that one counts only where its own three bytes stand there.
func isText(s string) bool {
	for i, c := range s {
		if c == '\uFFFD' && !strings.HasPrefix(s[i:], "\uFFFD") {
			return false
		}
	}
	return true
}

// numSize tells how many bytes a number needs.
func numSize(v uint64) int {
	size := 1
	for v >= 0x80 {
		v >>= 7
		size++
	}
	return size
}

// appendNum lays a number down, seven bits a byte, the lowest first.
func appendNum(b []byte, v uint64) []byte {
	for v >= 0x80 {
		b = append(b, byte(v)|0x80)
		v >>= 7
	}
	return append(b, byte(v))
}
