package wal_test

import (
	"bytes"
	"encoding/binary"
	"math"
	"strings"
	"testing"

	"quorum/api"
	"quorum/wal"
)

func TestP8_5Headers(t *testing.T) {
	for _, number := range []uint64{1, 2, 255, 256, 1 << 32, 0x0102030405060708, 1<<62 - 1, 1 << 62} {
		for base := range 65 {
			b, err := wal.Header(number, base)
			if err != nil || len(b) != 21 || !bytes.Equal(b, plainHeader(number, uint32(base))) {
				t.Fatalf("Header(%d, %d): % x %v", number, base, b, err)
			}
		}
	}
	for _, c := range []struct {
		number uint64
		base   int
		why    api.Errno
	}{
		{0, 0, api.ErrArg}, {1<<62 + 1, 0, api.ErrArg}, {1 << 63, 0, api.ErrArg}, {most, 64, api.ErrArg},
		{0, 65, api.ErrArg}, {0, -1, api.ErrArg}, {most, 65, api.ErrArg},
		{1, -1, api.ErrWalBase}, {1, 65, api.ErrWalBase}, {1 << 62, math.MaxInt, api.ErrWalBase}, {1, math.MinInt, api.ErrWalBase}, {1, 1 << 32, api.ErrWalBase},
	} {
		b, err := wal.Header(c.number, c.base)
		isFault(t, "Header", err, c.why, 0)
		if b != nil {
			t.Errorf("Header(%d, %d): bytes beside a refusal", c.number, c.base)
		}
	}
}

func TestP8_5Frames(t *testing.T) {
	d := &dice{85}
	texts := []string{"", "\x00", "a", "ab", strings.Repeat("\xff", 255), strings.Repeat("q", 256), strings.Repeat("r", 59999), strings.Repeat("s", 60000)}
	for range 50 {
		texts = append(texts, d.text(700))
	}
	for _, s := range texts {
		for _, index := range []int{0, 1, 255, 256, 0x01020304, 1<<31 - 1} {
			b, err := wal.Frame(index, []byte(s))
			if err != nil || len(b) != 16+len(s) || !bytes.Equal(b, plainFrame(uint32(index), []byte(s))) {
				t.Fatalf("Frame(%d, %q): % x %v", index, s, b, err)
			}
		}
	}
	long := make([]byte, 60001)
	for _, c := range []struct {
		index int
		body  []byte
		why   api.Errno
	}{
		{-1, nil, api.ErrArg}, {1 << 31, nil, api.ErrArg}, {math.MaxInt, nil, api.ErrArg}, {math.MinInt, nil, api.ErrArg}, {1 << 32, nil, api.ErrArg},
		{-1, long, api.ErrArg}, {1 << 31, long, api.ErrArg},
		{0, long, api.ErrWalLong}, {1<<31 - 1, long, api.ErrWalLong}, {0, make([]byte, 1<<20), api.ErrWalLong},
	} {
		b, err := wal.Frame(c.index, c.body)
		isFault(t, "Frame", err, c.why, 0)
		if b != nil {
			t.Errorf("Frame(%d, ..): bytes beside a refusal", c.index)
		}
	}
}

// One turned bit anywhere in a frame is told.
func TestP8_5EveryBitOfAFrame(t *testing.T) {
	for _, s := range []string{"", "a", "\x00\x00\x00\x00", "quorum"} {
		whole := plainSegment(5, 0, s)
		for bit := 8 * 21; bit < 8*len(whole); bit++ {
			b := []byte(whole)
			b[bit/8] ^= 1 << (bit % 8)
			if base, l, good, code := wal.Scan(5, b); base != 0 || l != nil || good != 21 || code != api.OK {
				t.Errorf("%q with the bit %d turned: %d %q %d %d", s, bit, base, l, good, code)
			}
		}
	}
}

// scans wants Scan to tell just what the second one tells.
func scans(t *testing.T, what string, number uint64, data []byte) scanned {
	t.Helper()
	was := bytes.Clone(data)
	var got scanned
	got.base, got.bodies, got.good, got.code = wal.Scan(number, data)
	want := plainScan(number, data)
	if !same(got, want) {
		t.Fatalf("%s: Scan(%d, % x): %v, want %v", what, number, data, got, want)
	}
	if !bytes.Equal(data, was) {
		t.Fatalf("%s: the bytes were changed", what)
	}
	return got
}

func TestP8_6Segments(t *testing.T) {
	for _, c := range []struct {
		number uint64
		base   int
		texts  []string
	}{
		{1, 0, nil},
		{1, 0, []string{"ab", "", "c"}},
		{3, 1, []string{"a", "bc", ""}},
		{3, 3, []string{"a", "bc", ""}},
		{1 << 62, 2, []string{"", ""}},
		{9, 64, strings.Split(strings.Repeat("b,", 63)+"b", ",")},
		{9, 64, strings.Split(strings.Repeat("c,", 80)+"c", ",")},
		{2, 1, []string{strings.Repeat("s", 60000), "t"}},
	} {
		whole := plainSegment(c.number, c.base, c.texts...)
		got := scans(t, "whole", c.number, []byte(whole))
		if !same(got, scanned{c.base, bodies(c.texts...), len(whole), 0}) {
			t.Errorf("Scan(%d, ..): %v", c.number, got)
		}
		for _, more := range []string{"\x00", "QLOG", whole, strings.Repeat("\x00", 16)} {
			longer := scans(t, "with more behind", c.number, []byte(whole+more))
			if !same(longer, got) {
				t.Errorf("Scan(%d, ..) with more behind: %v", c.number, longer)
			}
		}
	}
}

// Every cut and every turned bit of a segment.
func TestP8_6CutAndTurned(t *testing.T) {
	whole := []byte(plainSegment(3, 2, "a", "bc", "", "defgh", "\x00\x00"))
	for n := range len(whole) + 1 {
		got := scans(t, "cut", 3, whole[:n:n])
		if taken := got.code == 0; taken != (n >= 21+17+18) {
			t.Errorf("%d bytes: %v", n, got)
		}
	}
	for bit := range 8 * len(whole) {
		b := bytes.Clone(whole)
		b[bit/8] ^= 1 << (bit % 8)
		got := scans(t, "turned", 3, b)
		if taken := got.code == 0; taken != (bit >= 8*(21+17+18)) || got.good == len(whole) {
			t.Errorf("bit %d: %v", bit, got)
		}
	}
}

// Headers and frames that are wrong in one thing, with the sums that go with it.
func TestP8_6WrongWithRightSums(t *testing.T) {
	for what, c := range map[string]struct {
		number uint64
		data   []byte
	}{
		"nothing":               {1, nil},
		"a header cut":          {1, plainHeader(1, 0)[:20]},
		"a base of 65":          {1, append(plainHeader(1, 65), plainSegment(1, 0, make([]string, 66)...)[21:]...)},
		"a very great base":     {1, plainHeader(1, math.MaxUint32)},
		"another segment":       {2, plainHeader(1, 0)},
		"segment 0":             {0, plainHeader(0, 0)},
		"a segment too high":    {1<<62 + 1, plainHeader(1<<62+1, 0)},
		"another version":       {1, withSum([]byte("QLOG\x02\x00\x00\x00\x00\x00\x00\x00\x01\x00\x00\x00\x00"))},
		"another magic":         {1, withSum([]byte("QLOH\x01\x00\x00\x00\x00\x00\x00\x00\x01\x00\x00\x00\x00"))},
		"a base that is missed": {1, plainHeader(1, 1)},
		"a base that is cut":    {1, []byte(plainSegment(1, 2, "a", "b"))[:21+17+16]},
	} {
		if got := scans(t, what, c.number, c.data); !same(got, scanned{code: api.ErrWalCorrupt}) {
			t.Errorf("%s: %v", what, got)
		}
	}
	long := plainFrame(1, make([]byte, 60001))
	turned := plainFrame(1, []byte("b"))
	binary.BigEndian.PutUint32(turned[8:], binary.LittleEndian.Uint32(turned[8:]))
	behind := plainFrame(1, []byte("b"))
	binary.BigEndian.PutUint32(behind[13:], binary.LittleEndian.Uint32(behind[13:]))
	for what, frame := range map[string][]byte{
		"a body that is too long":         long,
		"the same index again":            plainFrame(0, []byte("b")),
		"an index too high":               plainFrame(2, []byte("b")),
		"a very high index":               plainFrame(1<<31+1, []byte("b")),
		"its first sum high byte first":   turned,
		"its second sum high byte first":  behind,
		"a length of more than there is":  withSum([]byte{0, 0, 0, 9, 0, 0, 0, 1}),
		"the greatest length":             append(withSum([]byte{255, 255, 255, 255, 0, 0, 0, 1}), make([]byte, 40)...),
		"a length just below the sign":    append(withSum([]byte{127, 255, 255, 240, 0, 0, 0, 1}), make([]byte, 40)...),
		"a body's sum that is of another": append(append(withSum([]byte{0, 0, 0, 1, 0, 0, 0, 1}), 'b'), sum([]byte("c"))...),
		"a sum of all ahead":              append(append(withSum([]byte{0, 0, 0, 1, 0, 0, 0, 1}), 'b'), sum(append(withSum([]byte{0, 0, 0, 1, 0, 0, 0, 1}), 'b'))...),
	} {
		data := append([]byte(plainSegment(4, 1, "a")), frame...)
		data = append(data, plainFrame(1, []byte("whole"))...)
		if got := scans(t, what, 4, data); !same(got, scanned{1, bodies("a"), 38, 0}) {
			t.Errorf("%s: %v", what, got)
		}
	}
}

// Many made-up segments, cut, turned, and with pieces of others.
func TestP8_6BesideASecondScan(t *testing.T) {
	d := &dice{86}
	taken, short := 0, 0
	for range 6000 {
		var texts []string
		for range d.below(6) {
			texts = append(texts, d.text(12))
		}
		number := uint64(1 + d.below(3))
		b := []byte(plainSegment(number, d.below(len(texts)+2), texts...))
		whole := len(b)
		switch d.below(5) {
		case 0:
			b = b[:d.below(len(b)+1)]
		case 1:
			b[d.below(len(b))] ^= byte(d.next() >> 9)
		case 2:
			b = append(b, plainFrame(uint32(len(texts)+d.below(2)), []byte(d.text(9)))...)
		case 3:
			at := d.below(len(b) + 1)
			b = append(b[:at:at], plainFrame(uint32(d.below(5)), []byte(d.text(9)))...)
		}
		got := scans(t, "made up", one(d, number, number, number, 2), b)
		if got.code == 0 {
			taken++
		}
		if got.code == 0 && got.good < whole {
			short++
		}
	}
	if taken < 1000 || short < 300 {
		t.Errorf("only %d segments were taken, %d of them in part", taken, short)
	}
}
