package wire_test

import (
	"errors"
	"math"
	"strings"
	"testing"

	"quorum/api"
	"quorum/wire"
)

func TestP1_4Fields(t *testing.T) {
	for _, c := range []struct {
		what string
		lay  func(w *wire.Writer)
		want []byte
	}{
		{"U8", func(w *wire.Writer) { w.U8(0xAB) }, []byte{0xAB}},
		{"U16", func(w *wire.Writer) { w.U16(0x0102) }, []byte{1, 2}},
		{"U32", func(w *wire.Writer) { w.U32(0x01020304) }, []byte{1, 2, 3, 4}},
		{"U64", func(w *wire.Writer) { w.U64(0x0102030405060708) }, []byte{1, 2, 3, 4, 5, 6, 7, 8}},
		{"Num 0", func(w *wire.Writer) { w.Num(0) }, []byte{0}},
		{"Num 127", func(w *wire.Writer) { w.Num(127) }, []byte{0x7F}},
		{"Num 128", func(w *wire.Writer) { w.Num(128) }, []byte{0x80, 1}},
		{"Num 300", func(w *wire.Writer) { w.Num(300) }, []byte{0xAC, 2}},
		{"Num 16383", func(w *wire.Writer) { w.Num(16383) }, []byte{0xFF, 0x7F}},
		{"Num 16384", func(w *wire.Writer) { w.Num(16384) }, []byte{0x80, 0x80, 1}},
		{"Num 2^63", func(w *wire.Writer) { w.Num(1 << 63) }, []byte{128, 128, 128, 128, 128, 128, 128, 128, 128, 1}},
		{"Num 2^64-1", func(w *wire.Writer) { w.Num(math.MaxUint64) }, []byte{255, 255, 255, 255, 255, 255, 255, 255, 255, 1}},
		{"Flag true", func(w *wire.Writer) { w.Flag(true) }, []byte{1}},
		{"Flag false", func(w *wire.Writer) { w.Flag(false) }, []byte{0}},
		{"Count 0 of 0", func(w *wire.Writer) { w.Count(0, 0) }, []byte{0}},
		{"Count at its most", func(w *wire.Writer) { w.Count(300, 300) }, []byte{0xAC, 2}},
		{"Blob nil", func(w *wire.Writer) { w.Blob(nil, 0) }, []byte{0}},
		{"Blob empty", func(w *wire.Writer) { w.Blob([]byte{}, 5) }, []byte{0}},
		{"Blob at its most", func(w *wire.Writer) { w.Blob([]byte{8, 9}, 2) }, []byte{2, 8, 9}},
		{"Text empty", func(w *wire.Writer) { w.Text("", 0) }, []byte{0}},
		{"Text at its most", func(w *wire.Writer) { w.Text("aé", 3) }, []byte{3, 'a', 0xC3, 0xA9}},
		{"Text with zero bytes", func(w *wire.Writer) { w.Text("\x00", 3) }, []byte{1, 0}},
		{"nothing", func(w *wire.Writer) {}, nil},
	} {
		w := wire.NewWriter(100)
		c.lay(w)
		b, err := w.Bytes()
		refused(t, c.what, err, api.OK, 0)
		same(t, c.what, b, c.want)
		if w.Len() != len(c.want) {
			t.Errorf("%s: Len %d", c.what, w.Len())
		}
		w = wire.NewWriter(len(c.want))
		c.lay(w)
		_, err = w.Bytes()
		refused(t, c.what+", with just the room", err, api.OK, 0)
		if len(c.want) == 0 {
			continue
		}
		w = wire.NewWriter(len(c.want) - 1)
		c.lay(w)
		_, err = w.Bytes()
		refused(t, c.what+", with a byte less", err, api.ErrWireLong, 0)
		if w.Len() != 0 {
			t.Errorf("%s: a part of it is laid down", c.what)
		}
	}
}

func TestP1_4Long(t *testing.T) {
	w := wire.NewWriter(1000)
	w.Blob(make([]byte, 200), 200)
	w.Text(strings.Repeat("x", 300), 300)
	b, err := w.Bytes()
	refused(t, "a blob and a text", err, api.OK, 0)
	same(t, "a blob and a text", b, join([]byte{0xC8, 1}, make([]byte, 200), []byte{0xAC, 2}, []byte(strings.Repeat("x", 300))))
}

func TestP1_4Refusals(t *testing.T) {
	for _, c := range []struct {
		what string
		most int
		lay  func(w *wire.Writer)
		why  api.Errno
		at   int
		len  int
	}{
		{"no room for a blob", 3, func(w *wire.Writer) { w.U16(1); w.Blob([]byte{7}, 5) }, api.ErrWireLong, 2, 2},
		{"what would fit behind a refusal", 3, func(w *wire.Writer) { w.U16(1); w.U16(1); w.U8(1) }, api.ErrWireLong, 2, 2},
		{"a count above its most", 9, func(w *wire.Writer) { w.Count(3, 2) }, api.ErrWireLong, 0, 0},
		{"a count below 0", 9, func(w *wire.Writer) { w.U8(1); w.Count(-1, 2) }, api.ErrWireLong, 1, 1},
		{"a count of -1 of -1", 9, func(w *wire.Writer) { w.Count(-1, -1) }, api.ErrWireLong, 0, 0},
		{"a count of 0 of -1", 9, func(w *wire.Writer) { w.Count(0, -1) }, api.ErrWireLong, 0, 0},
		{"the lowest count", 9, func(w *wire.Writer) { w.Count(math.MinInt, math.MaxInt) }, api.ErrWireLong, 0, 0},
		{"a blob above its most", 9, func(w *wire.Writer) { w.Blob([]byte{1, 2}, 1) }, api.ErrWireLong, 0, 0},
		{"a blob of none of -1", 9, func(w *wire.Writer) { w.Blob(nil, -1) }, api.ErrWireLong, 0, 0},
		{"a text of none of -1", 9, func(w *wire.Writer) { w.Text("", -1) }, api.ErrWireLong, 0, 0},
		{"a text above its most", 9, func(w *wire.Writer) { w.Text("ab", 1) }, api.ErrWireLong, 0, 0},
		{"a text that is none", 9, func(w *wire.Writer) { w.U8(1); w.Text("a\xFF", 5) }, api.ErrWireText, 1, 1},
		{"length ahead of bytes", 9, func(w *wire.Writer) { w.Text("a\xFF", 1) }, api.ErrWireLong, 0, 0},
		{"bytes ahead of room", 1, func(w *wire.Writer) { w.Text("a\xFF", 5) }, api.ErrWireText, 0, 0},
		{"the first refusal stays", 9, func(w *wire.Writer) { w.Text("\xFF", 5); w.Count(1, 0) }, api.ErrWireText, 0, 0},
		{"a most below 0", -5, func(w *wire.Writer) { w.U8(0) }, api.ErrWireLong, 0, 0},
		{"the lowest most", math.MinInt, func(w *wire.Writer) { w.U8(0) }, api.ErrWireLong, 0, 0},
		{"a most below 0 and no field", -5, func(w *wire.Writer) {}, api.OK, 0, 0},
		{"more than all", math.MaxInt, func(w *wire.Writer) { w.Blob(make([]byte, 65505), 1<<30) }, api.ErrWireLong, 0, 0},
		{"just all", math.MaxInt, func(w *wire.Writer) { w.Blob(make([]byte, 65504), 1<<30) }, api.OK, 0, 65507},
		{"a byte behind all", math.MaxInt, func(w *wire.Writer) { w.Blob(make([]byte, 65504), 1<<30); w.U8(1) }, api.ErrWireLong, 65507, 65507},
	} {
		w := wire.NewWriter(c.most)
		c.lay(w)
		for range 2 {
			b, err := w.Bytes()
			refused(t, c.what, err, c.why, c.at)
			if err != nil && b != nil {
				t.Errorf("%s: a refusal with bytes", c.what)
			}
			if w.Len() != c.len {
				t.Errorf("%s: Len %d, want %d", c.what, w.Len(), c.len)
			}
			// Nothing is taken any more; where nothing was refused this would show.
			if c.why != api.OK {
				w.U8(5)
				w.U64(5)
				w.Num(5)
				w.Flag(true)
				w.Count(1, 1)
				w.Blob(nil, 5)
				w.Text("", 5)
			}
		}
	}
}

// texts has byte strings, and whether they are UTF-8.
func texts() map[string]bool {
	return map[string]bool{
		"":                         true,
		"a":                        true,
		"\x00\x7F":                 true,
		"\u0080\u07FF":             true,
		"\u0800\uD7FF\uE000\uFFFF": true,
		"\U00010000\U0010FFFF":     true,
		"\uFFFD":                   true,
		"a\uFFFDb":                 true,
		"\x80":                     false,
		"\xC0\x80":                 false,
		"\xC1\xBF":                 false,
		"\xE0\x9F\xBF":             false,
		"\xED\xA0\x80":             false,
		"\xED\xBF\xBF":             false,
		"\xF0\x8F\xBF\xBF":         false,
		"\xF4\x90\x80\x80":         false,
		"\xF5\x80\x80\x80":         false,
		"\xC3":                     false,
		"\xE2\x82":                 false,
		"\xEF\xBF":                 false,
		"ab\xFFcd":                 false,
		"\uFFFD\xEF\xBF":           false,
		"\xFF\uFFFD":               false,
	}
}

func TestP1_4Texts(t *testing.T) {
	for s, good := range texts() {
		w := wire.NewWriter(50)
		w.Text(s, 40)
		_, err := w.Bytes()
		if good {
			refused(t, "a text", err, api.OK, 0)
		} else {
			refused(t, "no text: "+s, err, api.ErrWireText, 0)
		}
	}
}

func TestP1_4BytesAndOn(t *testing.T) {
	w := wire.NewWriter(4)
	blob := []byte{1, 2}
	w.Blob(blob, 2)
	blob[0] = 9
	b, _ := w.Bytes()
	same(t, "a blob that was written over", b, []byte{2, 1, 2})
	_ = append(b, 9)
	b[0] = 9
	w.U8(7)
	c, _ := w.Bytes()
	same(t, "behind Bytes", c, []byte{2, 1, 2, 7})
	w.U8(8)
	_, err := w.Bytes()
	refused(t, "full", err, api.ErrWireLong, 4)
	same(t, "what was told before", c, []byte{2, 1, 2, 7})
}

func TestP1_4FaultsAreNew(t *testing.T) {
	w := wire.NewWriter(0)
	w.U8(1)
	_, err := w.Bytes()
	var f *api.Fault
	if errors.As(err, &f) {
		f.At, f.Layer, f.Err = 99, "", nil
	}
	_, err = w.Bytes()
	refused(t, "a fault that was written over", err, api.ErrWireLong, 0)
}

func TestP1_4NobodyMade(t *testing.T) {
	for _, w := range []*wire.Writer{nil, {}} {
		w.U8(1)
		w.U16(1)
		w.U32(1)
		w.U64(1)
		w.Num(1)
		w.Flag(true)
		w.Count(1, 1)
		w.Count(-1, 1)
		w.Blob([]byte{1}, 1)
		w.Text("a", 1)
		w.Text("\xFF", 1)
		b, err := w.Bytes()
		refused(t, "a writer that nobody made", err, api.ErrZero, 0)
		same(t, "a writer that nobody made", b, nil)
		if w.Len() != 0 {
			t.Error("a writer that nobody made has bytes")
		}
	}
}
