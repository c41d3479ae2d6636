package code_test

import (
	"bytes"
	"errors"
	"slices"
	"testing"

	"quorum/api"
	"quorum/code"
	"quorum/wire"
)

// packs wants Pack to answer these bytes, and Unpack the program.
func packs(t *testing.T, p api.Program, want []byte) {
	t.Helper()
	was := clone(p)
	b, err := code.Pack(p)
	if err != nil || !bytes.Equal(b, want) {
		t.Errorf("Pack of %v:\n% x, %v, want\n% x", p, b, err, want)
	}
	unchanged(t, p, was)
	q, err := code.Unpack(want)
	if err != nil || !same(q, clone(p)) {
		t.Errorf("Unpack of % x:\n%v, %v, want\n%v", want, q, err, p)
	}
}

// noUnpack wants Unpack to refuse bytes with a number of this layer.
func noUnpack(t *testing.T, b []byte, why api.Errno, at int) {
	t.Helper()
	p, err := code.Unpack(b)
	isFault(t, "Unpack", err, why, at)
	if !same(p, api.Program{}) {
		t.Errorf("Unpack: %v beside the fault", p)
	}
}

// noField wants Unpack to refuse bytes as the reader of layer 1 does.
func noField(t *testing.T, b []byte, why api.Errno, at int) {
	t.Helper()
	p, err := code.Unpack(b)
	isLower(t, "Unpack", err, at, &api.Fault{Layer: "wire", At: at, Err: why})
	if !errors.Is(err, why) || !same(p, api.Program{}) {
		t.Errorf("Unpack: %v, %v", p, err)
	}
}

// num gives the bytes of a Num.
func num(n uint64) []byte {
	w := wire.NewWriter(10)
	w.Num(n)
	b, _ := w.Bytes()
	return b
}

// plainPack lays a program down byte by byte.
func plainPack(p api.Program) []byte {
	b := append([]byte{0x51, 0x43, 1}, num(uint64(len(p.Consts)))...)
	for _, n := range p.Consts {
		b = append(b, num(n)...)
	}
	b = append(b, num(uint64(len(p.Slots)))...)
	for _, k := range p.Slots {
		b = append(b, byte(k))
	}
	for _, at := range p.Entry {
		b = append(b, num(uint64(at+1))...)
	}
	b = append(b, num(uint64(len(p.Ins)))...)
	for _, i := range p.Ins {
		b = append(b, byte(i.Op))
		if slices.Contains([]api.CodeOp{2, 5, 6, 7, 25, 26, 27, 28, 30, 31}, i.Op) {
			b = append(b, num(uint64(i.Arg))...)
		}
	}
	return b
}

// everyOp is a program with each instruction, most of them reached by nothing.
func everyOp() api.Program {
	p := fund("done, tick, num 6, true, false, env 7, get 1, put 0, not, eq, ne, lt, le, gt, ge, eqb, neb, add, sub, mul, div, mod, min, max, share, jump 3, jumpnot 32, skipnot 0, skipyes 5, pay, require 999, fail 128, done")
	p.Entry = [6]int{0, -1, 32, -1, 0, -1}
	return p
}

func TestP4_7Pack(t *testing.T) {
	packs(t, api.Program{Entry: nowhere}, []byte{0x51, 0x43, 1, 0, 0, 0, 0, 0, 0, 0, 0, 0})
	packs(t, everyOp(), []byte{0x51, 0x43, 1, 7, 0, 1, 2, 3, 5, 100, 0xFF, 0xFF, 0xFF, 0xFF, 0xFF, 0xFF, 0xFF, 0xFF, 0xFF, 0x01, 2, 0, 1, 1, 0, 33, 0, 1, 0, 33,
		32, 1, 2, 6, 3, 4, 5, 7, 6, 1, 7, 0, 8, 9, 10, 11, 12, 13, 14, 15, 16, 17, 18, 19, 20, 21, 22, 23, 24, 25, 3, 26, 32, 27, 0, 28, 5, 29, 30, 0xE7, 0x07, 31, 0x80, 0x01, 32})
	p := bare("jump 300" + times(299, ",add") + ",done")
	p.Entry[5] = 0
	p.Entry[0] = 300
	packs(t, p, plainPack(p))
	b, err := code.Pack(api.Program{Consts: []uint64{}, Slots: []int{}, Entry: nowhere, Ins: []api.Ins{}})
	if err != nil || !bytes.Equal(b, []byte{0x51, 0x43, 1, 0, 0, 0, 0, 0, 0, 0, 0, 0}) {
		t.Errorf("empty lists: % x, %v", b, err)
	}
}

// largest gives a program with all its limits reached, and in as many bytes as may be.
func largest() api.Program {
	p := bare("jump 1023" + times(1022, ",fail 999") + ",done")
	p.Entry = [6]int{1023, 1023, 1023, 1023, 1023, 1023}
	p.Consts = slices.Repeat([]uint64{most}, 256)
	p.Slots = slices.Repeat([]int{1}, 128)
	return p
}

func TestP4_7Limits(t *testing.T) {
	p := largest()
	b := plainPack(p)
	packs(t, p, b)
	if len(b) != 3+2+2560+2+128+12+2+3*1023+1 {
		t.Errorf("the largest program has %d bytes", len(b))
	}
	noUnpack(t, make([]byte, 8193), api.ErrCodeLong, 8192)
	noUnpack(t, append(slices.Clone(b), make([]byte, 8193-len(b))...), api.ErrCodeLong, 8192)
	noUnpack(t, make([]byte, 1<<20), api.ErrCodeLong, 8192)
	noField(t, append(slices.Clone(b), make([]byte, 8192-len(b))...), api.ErrWireTail, len(b))
	noUnpack(t, make([]byte, 8192), api.ErrCodeMagic, 0)
	// one past each count
	head := []byte{0x51, 0x43, 1}
	noField(t, append(head, 0x81, 0x02), api.ErrWireLong, 3)
	noField(t, append(head, 0, 0x81, 0x01), api.ErrWireLong, 4)
	noField(t, append(head, 0, 0, 0, 0, 0, 0, 0, 0, 0x81, 0x08), api.ErrWireLong, 11)
	// each at it, with nothing behind
	noField(t, append(head, 0x80, 0x02), api.ErrWireShort, 5)
	noField(t, append(head, 0, 0x80, 0x01), api.ErrWireShort, 6)
	noField(t, append(head, 0, 0, 0, 0, 0, 0, 0, 0, 0x80, 0x08), api.ErrWireShort, 13)
	for _, count := range [][]byte{num(most), num(1 << 63), num(1 << 32)} {
		noField(t, append(slices.Clone(head), count...), api.ErrWireLong, 3)
		noField(t, append(append(slices.Clone(head), 0), count...), api.ErrWireLong, 4)
	}
}

func TestP4_7Fields(t *testing.T) {
	noField(t, nil, api.ErrWireShort, 0)
	noField(t, []byte{}, api.ErrWireShort, 0)
	noField(t, []byte{0x51}, api.ErrWireShort, 0)
	noField(t, []byte{0x51, 0x43}, api.ErrWireShort, 2)
	noField(t, []byte{0x51, 0x43, 1}, api.ErrWireShort, 3)
	noUnpack(t, []byte{0x51, 0x42}, api.ErrCodeMagic, 0)
	noUnpack(t, []byte{0x43, 0x51, 9}, api.ErrCodeMagic, 0)
	noUnpack(t, []byte{0x50, 0x43, 1}, api.ErrCodeMagic, 0)
	noUnpack(t, []byte{0x51, 0x43, 0}, api.ErrCodeMagic, 2)
	noUnpack(t, []byte{0x51, 0x43, 2, 0x80, 0}, api.ErrCodeMagic, 2)
	head := []byte{0x51, 0x43, 1}
	for _, c := range []struct {
		rest []byte
		why  api.Errno
		at   int
	}{
		{[]byte{0x80, 0x00}, api.ErrWireForm, 3}, {[]byte{1, 0x85, 0x00}, api.ErrWireForm, 4}, {[]byte{1, 0xFF}, api.ErrWireShort, 4},
		{[]byte{1, 0xFF, 0xFF, 0xFF, 0xFF, 0xFF, 0xFF, 0xFF, 0xFF, 0xFF, 0x02}, api.ErrWireForm, 4}, {[]byte{0, 0x81, 0x00}, api.ErrWireForm, 4}, {[]byte{0, 1}, api.ErrWireShort, 5},
		{[]byte{0, 0, 0, 0x80, 0x00}, api.ErrWireForm, 6}, {[]byte{0, 0, 0, 0, 0, 0, 0, 0, 0x80, 0x00}, api.ErrWireForm, 11}, {[]byte{0, 0, 0, 0, 0, 0, 0, 0, 1, 25, 0x80, 0x00}, api.ErrWireForm, 13}, {[]byte{0, 0, 0, 0, 0, 0, 0, 0, 1, 25}, api.ErrWireShort, 13},
		{[]byte{0, 0, 0, 0, 0, 0, 0, 0, 0, 0}, api.ErrWireTail, 12}, {[]byte{0, 0, 0, 0, 0, 0, 0, 0, 1, 32, 32, 32}, api.ErrWireTail, 13},
	} {
		noField(t, append(slices.Clone(head), c.rest...), c.why, c.at)
	}
	for _, c := range []struct {
		rest []byte
		why  api.Errno
		at   int
	}{
		{[]byte{0, 0, 0x81, 0x08, 0xFF}, api.ErrCodeEntry, 5}, {append([]byte{0, 0, 0, 0, 0, 0, 0}, num(most)...), api.ErrCodeEntry, 10}, {append([]byte{0, 0, 1, 2, 0x80, 0x08}, num(1025)...), api.ErrCodeEntry, 9},
		{[]byte{0, 0, 0, 0, 0, 0, 0, 0, 2, 0}, api.ErrCodeOp, 12}, {[]byte{0, 0, 0, 0, 0, 0, 0, 0, 2, 33}, api.ErrCodeOp, 12}, {[]byte{0, 0, 0, 0, 0, 0, 0, 0, 2, 32, 255}, api.ErrCodeOp, 13},
		{[]byte{0, 0, 0, 0, 0, 0, 0, 0, 2, 25, 0x80, 0x08, 0}, api.ErrCodeArg, 13}, {append([]byte{0, 0, 0, 0, 0, 0, 0, 0, 2, 25, 0, 30}, num(most)...), api.ErrCodeArg, 15},
		// then what Verify refuses, at Verify's place
		{[]byte{0, 3, 0, 1, 2, 0, 0, 0, 0, 0, 0, 0}, api.ErrCodeSlot, 2}, {[]byte{0, 1, 255, 0, 0, 0, 0, 0, 0, 0}, api.ErrCodeSlot, 0},
		{[]byte{0, 0, 0, 0x80, 0x08, 0, 0, 0, 0, 0}, api.ErrCodeEntry, 1}, {[]byte{0, 0, 0, 0, 0, 0, 0, 2, 1, 32}, api.ErrCodeEntry, 5},
		{[]byte{0, 0, 0, 0, 0, 0, 0, 0, 1, 25, 0xFF, 0x07}, api.ErrCodeArg, 0}, {[]byte{0, 0, 0, 0, 0, 0, 0, 0, 2, 32, 31, 0}, api.ErrCodeArg, 1}, {[]byte{0, 0, 0, 0, 0, 0, 0, 0, 2, 32, 31, 0xE8, 0x07}, api.ErrCodeArg, 1}, {[]byte{0, 0, 1, 0, 0, 0, 0, 0, 1, 17}, api.ErrCodeEmpty, 0},
	} {
		noUnpack(t, append(slices.Clone(head), c.rest...), c.why, c.at)
	}
}

// A packed program that is cut anywhere is refused by the reader where its field begins; with anything behind it, at its end.
func TestP4_7Cut(t *testing.T) {
	p := everyOp()
	b := plainPack(p)
	for n := range b {
		if _, err := code.Unpack(b[:n]); !errors.Is(err, api.ErrWireShort) {
			t.Errorf("cut at %d: %v", n, err)
		}
	}
	noField(t, b[:len(b)-2], api.ErrWireShort, len(b)-3)
	for _, more := range [][]byte{{0}, {1}, {255, 255}} {
		noField(t, append(slices.Clone(b), more...), api.ErrWireTail, len(b))
	}
}

// Whatever bytes there are: what Unpack takes Pack gives back.
func TestP4_7Any(t *testing.T) {
	d := &dice{7}
	taken := 0
	for n := range 3000 {
		p := someProgram(d, 1+d.below(30))
		b := plainPack(p)
		packs(t, p, b)
		for range 10 {
			c := slices.Clone(b)
			c[d.below(len(c))] = byte(d.below(256))
			if d.below(3) == 0 {
				c[d.below(len(c))] ^= 1 << d.below(8)
			}
			was := slices.Clone(c)
			q, err := code.Unpack(c)
			if !bytes.Equal(c, was) {
				t.Errorf("the bytes are changed")
			}
			if err != nil {
				continue
			}
			taken++
			noEmpty(t, "Unpack", q)
			if again, err := code.Pack(q); err != nil || !bytes.Equal(again, c) {
				t.Errorf("Unpack takes % x, Pack gives % x, %v", c, again, err)
			}
		}
		if t.Failed() {
			t.Fatalf("of %v, the %d.", p, n)
		}
	}
	if taken < 1000 {
		t.Errorf("only %d turned programs were taken: the test has lost its aim", taken)
	}
}

// What is handed in is not kept, what is handed out is new.
func TestP4_7NewMemory(t *testing.T) {
	p := fund("num 4, put 0, done")
	b, _ := code.Pack(p)
	c := slices.Clone(b)
	q, err := code.Unpack(c)
	if err != nil {
		t.Fatal(err)
	}
	clear(c)
	if !same(q, p) {
		t.Errorf("the program hangs on the bytes: %v", q)
	}
	again, _ := code.Pack(p)
	clear(again)
	packs(t, p, b)
}
