package wire

import "quorum/api"

// Reader reads fields, one behind the other (P1.5).
type Reader struct {
	firstFault
	data []byte
	pos  int
}

// NewReader makes a reader of a copy of the bytes.
func NewReader(b []byte) *Reader {
	r := readerAt(copied(b), 0)
	return &r
}

// readerAt reads the bytes themselves, from an offset on: only for calls that let go of them when they answer.
func readerAt(b []byte, pos int) Reader {
	return Reader{firstFault: firstFault{made: true}, data: b, pos: pos}
}

// U8 reads a byte.
func (r *Reader) U8() uint8 { return uint8(r.fixed(1)) }

// U16 reads two bytes, the high one first.
func (r *Reader) U16() uint16 { return uint16(r.fixed(2)) }

// U32 reads four bytes, the high one first.
func (r *Reader) U32() uint32 { return uint32(r.fixed(4)) }

// U64 reads eight bytes, the high one first.
func (r *Reader) U64() uint64 { return r.fixed(8) }

// Num reads a number in as few bytes as it needs.
func (r *Reader) Num() uint64 {
	n, size, why := numAhead(r.rest())
	r.step(size, why)
	return n
}

// Flag reads a truth.
func (r *Reader) Flag() bool {
	yes, why := flagAhead(r.rest())
	r.step(1, why)
	return yes
}

// Count reads the length of a list.
func (r *Reader) Count(most int) int {
	n, size, why := countAhead(r.rest(), most)
	r.step(size, why)
	return n
}

// Blob reads bytes.
func (r *Reader) Blob(most int) []byte {
	b, size, why := blobAhead(r.rest(), most)
	r.step(size, why)
	return copied(b)
}

// Text reads a text.
func (r *Reader) Text(most int) string {
	s, size, why := textAhead(r.rest(), most)
	r.step(size, why)
	return s
}

// At tells the offset of the next field, or of the field at fault.
func (r *Reader) At() int {
	if r == nil {
		return 0
	}
	return r.pos
}

// Left tells how many bytes lie behind At.
func (r *Reader) Left() int {
	if r == nil {
		return 0
	}
	return len(r.data) - r.pos
}

// Err tells the first fault.
func (r *Reader) Err() error {
	if r == nil {
		return refusal(0, api.ErrZero)
	}
	return r.told()
}

// End tells the first fault, or that bytes are left.
func (r *Reader) End() error {
	if err := r.Err(); err != nil {
		return err
	}
	if r.Left() > 0 {
		return refusal(r.pos, api.ErrWireTail)
	}
	return nil
}

// fixed reads a number of just so many bytes.
func (r *Reader) fixed(size int) uint64 {
	b, why := bytesAhead(r.rest(), size)
	r.step(size, why)
	return high(b)
}

// rest gives the bytes that are still to be read. A reader that reads no more has none: so every field that is asked of it is zero.
func (r *Reader) rest() []byte {
	if r == nil || !r.sound() {
		return nil
	}
	return r.data[r.pos:]
}

// step goes behind a field that could be read, or notes why it could not.
func (r *Reader) step(size int, why api.Errno) {
	switch {
	case r == nil || !r.sound():
	case why != api.OK:
		r.fail(r.pos, why)
	default:
		r.pos += size
	}
}

// The functions below look at the field that b begins with and step nowhere, so that a field with several parts is read whole or not at all. Where they tell a reason, all else is zero.

// bytesAhead looks at just so many bytes.
func bytesAhead(b []byte, size int) ([]byte, api.Errno) {
	if len(b) < size {
		return nil, api.ErrWireShort
	}
	return b[:size], api.OK
}

// numAhead looks at a number, and tells how many bytes it has.
func numAhead(b []byte) (uint64, int, api.Errno) {
	var n uint64
	for i, c := range b {
		if i == 9 && c > 1 {
			return 0, 0, api.ErrWireForm
		}
		n |= uint64(c&0x7F) << (7 * i)
		if c >= 0x80 {
			continue
		}
		if c == 0 && i > 0 {
			return 0, 0, api.ErrWireForm
		}
		return n, i + 1, api.OK
	}
	return 0, 0, api.ErrWireShort
}

// flagAhead looks at a truth.
func flagAhead(b []byte) (bool, api.Errno) {
	switch {
	case len(b) == 0:
		return false, api.ErrWireShort
	case b[0] > 1:
		return false, api.ErrWireForm
	}
	return b[0] == 1, api.OK
}

// countAhead looks at a length.
func countAhead(b []byte, most int) (int, int, api.Errno) {
	n, size, why := numAhead(b)
	switch {
	case why != api.OK:
		return 0, 0, why
	case most < 0 || n > uint64(most):
		return 0, 0, api.ErrWireLong
	}
	return int(n), size, api.OK
}

// blobAhead looks at bytes with their number ahead, and tells how many there are in all.
func blobAhead(b []byte, most int) ([]byte, int, api.Errno) {
	n, size, why := countAhead(b, most)
	switch {
	case why != api.OK:
		return nil, 0, why
	case n > len(b)-size:
		return nil, 0, api.ErrWireShort
	}
	return b[size : size+n], size + n, api.OK
}

// textAhead looks at a text.
func textAhead(b []byte, most int) (string, int, api.Errno) {
	raw, size, why := blobAhead(b, most)
	if why != api.OK {
		return "", 0, why
	}
	s := string(raw)
	if !isText(s) {
		return "", 0, api.ErrWireText
	}
	return s, size, api.OK
}
