package wire_test

import (
	"errors"
	"math"
	"testing"

	"quorum/api"
	"quorum/wire"
)

// ask reads one field, and tells it as something that can be compared.
type ask func(r *wire.Reader) any

func askU8(r *wire.Reader) any   { return r.U8() }
func askU16(r *wire.Reader) any  { return r.U16() }
func askU32(r *wire.Reader) any  { return r.U32() }
func askU64(r *wire.Reader) any  { return r.U64() }
func askNum(r *wire.Reader) any  { return r.Num() }
func askFlag(r *wire.Reader) any { return r.Flag() }

func askCount(most int) ask { return func(r *wire.Reader) any { return r.Count(most) } }
func askText(most int) ask  { return func(r *wire.Reader) any { return r.Text(most) } }

// A blob of none shows as "nil", or as "empty", which it must not be.
func askBlob(most int) ask {
	return func(r *wire.Reader) any {
		b := r.Blob(most)
		switch {
		case b == nil:
			return "nil"
		case len(b) == 0:
			return "empty"
		}
		return string(b)
	}
}

func TestP1_5Fields(t *testing.T) {
	for _, c := range []struct {
		what string
		b    []byte
		ask  ask
		want any
	}{
		{"U8", []byte{0xAB}, askU8, uint8(0xAB)},
		{"U16", []byte{1, 2}, askU16, uint16(0x0102)},
		{"U32", []byte{1, 2, 3, 4}, askU32, uint32(0x01020304)},
		{"U64", []byte{1, 2, 3, 4, 5, 6, 7, 8}, askU64, uint64(0x0102030405060708)},
		{"Num 0", []byte{0}, askNum, uint64(0)},
		{"Num 127", []byte{0x7F}, askNum, uint64(127)},
		{"Num 128", []byte{0x80, 1}, askNum, uint64(128)},
		{"Num 300", []byte{0xAC, 2}, askNum, uint64(300)},
		{"Num 2^63", []byte{128, 128, 128, 128, 128, 128, 128, 128, 128, 1}, askNum, uint64(1 << 63)},
		{"Num 2^64-1", []byte{255, 255, 255, 255, 255, 255, 255, 255, 255, 1}, askNum, uint64(math.MaxUint64)},
		{"Num 2^63-1", []byte{255, 255, 255, 255, 255, 255, 255, 255, 0x7F}, askNum, uint64(math.MaxInt64)},
		{"Flag 1", []byte{1}, askFlag, true},
		{"Flag 0", []byte{0}, askFlag, false},
		{"Count 0 of 0", []byte{0}, askCount(0), 0},
		{"Count at its most", []byte{0xAC, 2}, askCount(300), 300},
		{"Count at the very most", []byte{255, 255, 255, 255, 255, 255, 255, 255, 0x7F}, askCount(math.MaxInt), math.MaxInt},
		{"Blob of none", []byte{0}, askBlob(0), "nil"},
		{"Blob at its most", []byte{2, 8, 9}, askBlob(2), "\x08\x09"},
		{"Text of none", []byte{0}, askText(0), ""},
		{"Text at its most", []byte{3, 'a', 0xC3, 0xA9}, askText(3), "aé"},
	} {
		for _, tail := range [][]byte{nil, {0}, {0xFF, 0xFF}} {
			r := wire.NewReader(join(c.b, tail))
			if got := c.ask(r); got != c.want {
				t.Errorf("%s: %v, want %v", c.what, got, c.want)
			}
			refused(t, c.what, r.Err(), api.OK, 0)
			if r.At() != len(c.b) || r.Left() != len(tail) {
				t.Errorf("%s: At %d, Left %d", c.what, r.At(), r.Left())
			}
			if len(tail) > 0 {
				refused(t, c.what+", End", r.End(), api.ErrWireTail, len(c.b))
			} else {
				refused(t, c.what+", End", r.End(), api.OK, 0)
			}
		}
		// A field that is cut is short at its beginning, wherever it is cut.
		for n := range c.b {
			r := wire.NewReader(join([]byte{5}, c.b[:n]))
			r.U8()
			c.ask(r)
			refused(t, c.what+", cut", r.Err(), api.ErrWireShort, 1)
		}
	}
}

func TestP1_5Refusals(t *testing.T) {
	for _, c := range []struct {
		what string
		b    []byte
		ask  ask
		zero any
		why  api.Errno
	}{
		{"Num in two bytes for 0", []byte{0x80, 0}, askNum, uint64(0), api.ErrWireForm},
		{"Num in three bytes for 1", []byte{0x81, 0x80, 0}, askNum, uint64(0), api.ErrWireForm},
		{"Num whose tenth byte is 2", []byte{255, 255, 255, 255, 255, 255, 255, 255, 255, 2}, askNum, uint64(0), api.ErrWireForm},
		{"Num whose tenth byte is 0", []byte{255, 255, 255, 255, 255, 255, 255, 255, 255, 0}, askNum, uint64(0), api.ErrWireForm},
		{"Num whose tenth byte goes on", []byte{255, 255, 255, 255, 255, 255, 255, 255, 255, 0x81}, askNum, uint64(0), api.ErrWireForm},
		{"Num whose tenth byte is 80", []byte{128, 128, 128, 128, 128, 128, 128, 128, 128, 0x80, 1}, askNum, uint64(0), api.ErrWireForm},
		{"Num of nine bytes that go on", []byte{255, 255, 255, 255, 255, 255, 255, 255, 255}, askNum, uint64(0), api.ErrWireShort},
		{"Flag 2", []byte{2}, askFlag, false, api.ErrWireForm},
		{"Flag 255", []byte{255, 1}, askFlag, false, api.ErrWireForm},
		{"Count above its most", []byte{3}, askCount(2), 0, api.ErrWireLong},
		{"Count 0 of -1", []byte{0}, askCount(-1), 0, api.ErrWireLong},
		{"Count of the lowest most", []byte{0}, askCount(math.MinInt), 0, api.ErrWireLong},
		{"Count of 2^63", []byte{128, 128, 128, 128, 128, 128, 128, 128, 128, 1}, askCount(math.MaxInt), 0, api.ErrWireLong},
		{"Count: form ahead of most", []byte{0x83, 0}, askCount(-1), 0, api.ErrWireForm},
		{"Count: short ahead of most", nil, askCount(-1), 0, api.ErrWireShort},
		{"Blob above its most", []byte{2, 1, 1}, askBlob(1), "nil", api.ErrWireLong},
		{"Blob: most ahead of short", []byte{2}, askBlob(1), "nil", api.ErrWireLong},
		{"Blob of none of -1", []byte{0}, askBlob(-1), "nil", api.ErrWireLong},
		{"Blob in a wrong form", []byte{0x81, 0, 5}, askBlob(9), "nil", api.ErrWireForm},
		{"Blob that is cut", []byte{2, 1}, askBlob(5), "nil", api.ErrWireShort},
		{"Blob of 2^63-1 bytes", []byte{255, 255, 255, 255, 255, 255, 255, 255, 0x7F, 1}, askBlob(math.MaxInt), "nil", api.ErrWireShort},
		{"Text above its most", []byte{2, 0xFF, 0xFF}, askText(1), "", api.ErrWireLong},
		{"Text of none of -1", []byte{0}, askText(-1), "", api.ErrWireLong},
		{"Text that is cut", []byte{3, 0xFF, 0xFF}, askText(5), "", api.ErrWireShort},
		{"Text that is none", []byte{2, 'a', 0xFF}, askText(5), "", api.ErrWireText},
		{"Text whose rune goes on behind it", []byte{1, 0xC3, 0xA9}, askText(5), "", api.ErrWireText},
	} {
		r := wire.NewReader(join([]byte{7}, c.b))
		r.U8()
		for range 2 {
			if got := c.ask(r); got != c.zero {
				t.Errorf("%s: %v", c.what, got)
			}
			refused(t, c.what, r.Err(), c.why, 1)
			refused(t, c.what+", End", r.End(), c.why, 1)
			if r.At() != 1 || r.Left() != len(c.b) {
				t.Errorf("%s: At %d, Left %d", c.what, r.At(), r.Left())
			}
			if !silent(r) {
				t.Errorf("%s: fields are told behind it", c.what)
			}
		}
	}
}

// silent tells whether every field is told as zero.
func silent(r *wire.Reader) bool {
	return r.U8() == 0 && r.U16() == 0 && r.U32() == 0 && r.U64() == 0 && r.Num() == 0 &&
		!r.Flag() && r.Count(9) == 0 && r.Blob(9) == nil && r.Text(9) == ""
}

func TestP1_5Texts(t *testing.T) {
	for s, good := range texts() {
		r := wire.NewReader(join(num(uint64(len(s))), []byte(s)))
		got := r.Text(40)
		if good {
			refused(t, "a text", r.End(), api.OK, 0)
			if got != s {
				t.Errorf("%q is read as %q", s, got)
			}
		} else {
			refused(t, "no text", r.Err(), api.ErrWireText, 0)
		}
	}
}

func TestP1_5EndChangesNothing(t *testing.T) {
	r := wire.NewReader([]byte{1, 2})
	for range 3 {
		refused(t, "two left", r.End(), api.ErrWireTail, 0)
		refused(t, "two left", r.Err(), api.OK, 0)
	}
	if r.U8() != 1 || r.U8() != 2 {
		t.Error("one can't read on behind End")
	}
	refused(t, "none left", r.End(), api.OK, 0)
	refused(t, "none left", r.End(), api.OK, 0)
	r.U8()
	refused(t, "behind the end", r.End(), api.ErrWireShort, 2)
}

func TestP1_5Own(t *testing.T) {
	b := []byte{1, 2, 3, 2, 5, 6}
	r := wire.NewReader(b)
	clear(b)
	if r.U8() != 1 {
		t.Error("the reader's bytes can be written over")
	}
	first := r.Blob(5)
	same(t, "a blob", first, []byte{3, 2})
	_ = append(first, 9, 9)
	first[0] = 9
	r = wire.NewReader([]byte{1, 3, 2, 5, 6})
	first = r.Blob(5)
	_ = append(first, 9)
	same(t, "a blob behind another", r.Blob(5), []byte{5, 6})
}

func TestP1_5FaultsAreNew(t *testing.T) {
	r := wire.NewReader(nil)
	r.U8()
	for _, tell := range []func() error{r.Err, r.End} {
		var f *api.Fault
		if errors.As(tell(), &f) {
			f.At, f.Layer, f.Err = 99, "", nil
		}
		refused(t, "a fault that was written over", tell(), api.ErrWireShort, 0)
	}
}

func TestP1_5NobodyMade(t *testing.T) {
	for _, r := range []*wire.Reader{nil, {}} {
		for range 2 {
			if !silent(r) || r.At() != 0 || r.Left() != 0 {
				t.Error("a reader that nobody made reads")
			}
			refused(t, "a reader that nobody made", r.Err(), api.ErrZero, 0)
			refused(t, "a reader that nobody made, End", r.End(), api.ErrZero, 0)
		}
	}
	r := wire.NewReader(nil)
	refused(t, "a reader of nothing", r.Err(), api.OK, 0)
	refused(t, "a reader of nothing, End", r.End(), api.OK, 0)
}

func TestP1_5WrittenAndReadBack(t *testing.T) {
	d := &dice{5}
	for range 500 {
		w := wire.NewWriter(api.MaxFrame)
		u, v, blob := d.number(math.MaxUint64), d.number(math.MaxUint64), d.bytes(d.below(300))
		n, yes := d.below(1000), d.below(2) == 1
		w.U64(u)
		w.Num(v)
		w.Flag(yes)
		w.Count(n, n)
		w.Blob(blob, len(blob))
		w.Text("é\uFFFD", 5)
		w.U16(uint16(u))
		w.U32(uint32(v))
		b, err := w.Bytes()
		refused(t, "fields", err, api.OK, 0)
		r := wire.NewReader(b)
		if r.U64() != u || r.Num() != v || r.Flag() != yes || r.Count(n) != n {
			t.Fatal("numbers are read back otherwise")
		}
		same(t, "a blob read back", r.Blob(len(blob)), blob)
		if r.Text(5) != "é\uFFFD" || r.U16() != uint16(u) || r.U32() != uint32(v) {
			t.Fatal("fields are read back otherwise")
		}
		refused(t, "fields read back", r.End(), api.OK, 0)
	}
}
