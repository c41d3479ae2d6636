package wire_test

import (
	"bytes"
	"hash/crc32"
	"testing"

	"quorum/api"
	"quorum/wire"
)

func TestP1_1Sum(t *testing.T) {
	for _, c := range []struct {
		b    []byte
		want uint32
	}{
		{nil, 0},
		{[]byte{}, 0},
		{[]byte("123456789"), 0xE3069283},
		{make([]byte, 32), 0x8A9136AA},
		{bytes.Repeat([]byte{255}, 32), 0x62A8AB43},
	} {
		if got := wire.Sum(c.b); got != c.want {
			t.Errorf("Sum(% x) = %08X, want %08X", c.b, got, c.want)
		}
	}
}

func TestP1_1SumIsCastagnolis(t *testing.T) {
	table := crc32.MakeTable(crc32.Castagnoli)
	d := &dice{1}
	for n := range 300 {
		b := d.bytes(n)
		kept := bytes.Clone(b)
		if got, want := wire.Sum(b), crc32.Checksum(b, table); got != want {
			t.Errorf("Sum of %d bytes = %08X, want %08X", n, got, want)
		}
		same(t, "what was summed", b, kept)
	}
	for v := range 256 {
		b := []byte{byte(v)}
		if got, want := wire.Sum(b), crc32.Checksum(b, table); got != want {
			t.Errorf("Sum(% x) = %08X, want %08X", b, got, want)
		}
	}
}

func TestP1_2Layout(t *testing.T) {
	ahead := []byte{0x51, 0x4D, 1, 200, 0, 0, 1, 3}
	body := bytes.Repeat([]byte{7}, 259)
	ahead = append(ahead, body...)
	s := wire.Sum(ahead)
	want := append(ahead, byte(s), byte(s>>8), byte(s>>16), byte(s>>24))
	got, err := wire.Frame(200, body)
	refused(t, "Frame", err, api.OK, 0)
	same(t, "Frame", got, want)
	none, err := wire.Frame(0, nil)
	refused(t, "Frame of nothing", err, api.OK, 0)
	same(t, "Frame of nothing", none, []byte{0x51, 0x4D, 1, 0, 0, 0, 0, 0, 2, 0x75, 0x2B, 0x4D})
	empty, _ := wire.Frame(0, []byte{})
	same(t, "Frame of an empty body", empty, none)
}

func TestP1_2Limit(t *testing.T) {
	b, err := wire.Frame(1, make([]byte, 65495))
	refused(t, "a body of 65495 bytes", err, api.OK, 0)
	if len(b) != api.MaxFrame {
		t.Errorf("the longest datagram has %d bytes", len(b))
	}
	for _, n := range []int{65496, 65507, 65508, 1 << 20} {
		b, err = wire.Frame(1, make([]byte, n))
		refused(t, "a longer body", err, api.ErrWireLong, 65507)
		same(t, "a longer body", b, nil)
	}
}

func TestP1_2Own(t *testing.T) {
	body := []byte{1, 2, 3, 4}
	b := framed(t, 9, body[:2]...)
	kept := bytes.Clone(b)
	body[0], body[1] = 8, 9
	same(t, "a datagram whose body was written over", b, kept)
	same(t, "what lies behind the body", body, []byte{8, 9, 3, 4})
}

// flip turns the bits of a mask from a bit on, counted from the lowest of each byte on.
func flip(b []byte, from int, mask uint64) []byte {
	c := bytes.Clone(b)
	for i := range 64 {
		if mask>>i&1 == 1 {
			c[(from+i)/8] ^= 1 << ((from + i) % 8)
		}
	}
	return c
}

func TestP1_2RunsOfBits(t *testing.T) {
	d := &dice{2}
	for _, body := range [][]byte{nil, {0}, {3, 1}, d.bytes(20), make([]byte, 33)} {
		b := framed(t, 3, body...)
		for length := 1; length <= 32; length++ {
			for from := 0; from+length <= 8*len(b); from++ {
				run := uint64(1)<<length - 1
				ends := uint64(1) | 1<<(length-1)
				for _, mask := range []uint64{run, ends, ends | d.next()&run} {
					if _, _, err := wire.Unframe(flip(b, from, mask)); err == nil {
						t.Fatalf("a body of %d bytes: the bits %x turned from bit %d on are not noticed", len(body), mask, from)
					}
				}
			}
		}
	}
}

func TestP1_2OddBits(t *testing.T) {
	d := &dice{3}
	b := framed(t, 6, d.bytes(40)...)
	for range 3000 {
		c, seen := bytes.Clone(b), map[int]bool{}
		for want := 1 + 2*d.below(20); len(seen) < want; {
			if at := d.below(8 * len(c)); !seen[at] {
				seen[at] = true
				c[at/8] ^= 1 << (at % 8)
			}
		}
		if _, _, err := wire.Unframe(c); err == nil {
			t.Fatalf("%d turned bits are not noticed", len(seen))
		}
	}
}

func TestP1_3Refusals(t *testing.T) {
	good := framed(t, 3, 3, 1)
	full := framed(t, 3, make([]byte, 65495)...)
	for _, c := range []struct {
		what string
		b    []byte
		why  api.Errno
		at   int
	}{
		{"nothing", nil, api.ErrWireShort, 0},
		{"an empty list", []byte{}, api.ErrWireShort, 0},
		{"eleven bytes of another kind", []byte("xxxxxxxxxxx"), api.ErrWireShort, 11},
		{"eleven bytes of ours", good[:11], api.ErrWireShort, 11},
		{"twelve bytes of another kind", []byte("xxxxxxxxxxxx"), api.ErrWireMagic, 0},
		{"another first byte", turned(good, 0, 0x50), api.ErrWireMagic, 0},
		{"another second byte", turned(good, 1, 0x4E), api.ErrWireMagic, 0},
		{"the magic turned round", turned(turned(good, 0, 0x4D), 1, 0x51), api.ErrWireMagic, 0},
		{"magic ahead of version", turned(turned(good, 0, 0), 2, 9), api.ErrWireMagic, 0},
		{"version 0", turned(good, 2, 0), api.ErrWireVersion, 2},
		{"version 2", turned(good, 2, 2), api.ErrWireVersion, 2},
		{"version ahead of length", turned(turned(good, 2, 2), 7, 3), api.ErrWireVersion, 2},
		{"a length one too great", turned(good, 7, 3), api.ErrWireShort, 14},
		{"a length of 2^32-1", join(good[:4], []byte{255, 255, 255, 255}, good[8:]), api.ErrWireShort, 14},
		{"a length of 2^32-10", join(good[:4], []byte{255, 255, 255, 246}, good[8:]), api.ErrWireShort, 14},
		{"the length's high bit", turned(good, 4, 0x80), api.ErrWireShort, 14},
		{"the length's second byte", turned(good, 5, 1), api.ErrWireShort, 14},
		{"the length's third byte", turned(good, 6, 1), api.ErrWireShort, 14},
		{"a length one too low", turned(good, 7, 1), api.ErrWireTail, 13},
		{"a length of 0", turned(good, 7, 0), api.ErrWireTail, 12},
		{"a byte more", append(bytes.Clone(good), 0), api.ErrWireTail, 14},
		{"a byte less", good[:13], api.ErrWireShort, 13},
		{"another kind", turned(good, 3, 12), api.ErrWireSum, 10},
		{"another body", turned(good, 9, 2), api.ErrWireSum, 10},
		{"the sum's first byte", turned(good, 10, good[10]^1), api.ErrWireSum, 10},
		{"the sum's last byte", turned(good, 13, good[13]^1), api.ErrWireSum, 10},
		{"the sum turned round", join(good[:10], []byte{good[13], good[12], good[11], good[10]}), api.ErrWireSum, 10},
		{"65507 bytes of another kind", make([]byte, 65507), api.ErrWireMagic, 0},
		{"65508 bytes of another kind", make([]byte, 65508), api.ErrWireLong, 65507},
		{"the longest and a byte more", append(bytes.Clone(full), 0), api.ErrWireLong, 65507},
		{"the longest", full, api.OK, 0},
		{"the good one", good, api.OK, 0},
	} {
		kept := bytes.Clone(c.b)
		kind, body, err := wire.Unframe(c.b)
		refused(t, c.what, err, c.why, c.at)
		if err != nil && (kind != 0 || body != nil) {
			t.Errorf("%s: a refusal with %d and % x", c.what, kind, body)
		}
		if !bytes.Equal(c.b, kept) {
			t.Errorf("%s: the bytes were changed", c.what)
		}
	}
}

func TestP1_3EveryCut(t *testing.T) {
	good := framed(t, 6, 5, 2, 10, 0, 0)
	for n := range good {
		_, _, err := wire.Unframe(good[:n])
		refused(t, "a cut datagram", err, api.ErrWireShort, n)
	}
}

func TestP1_3ThereAndBack(t *testing.T) {
	d := &dice{4}
	for want := range 256 {
		body := d.bytes(want)
		kind, got, err := wire.Unframe(framed(t, uint8(want), body...))
		refused(t, "Unframe", err, api.OK, 0)
		if int(kind) != want {
			t.Errorf("kind %d, want %d", kind, want)
		}
		same(t, "a body", got, body)
	}
}

func TestP1_3Own(t *testing.T) {
	b := framed(t, 3, 3, 1)
	kept := bytes.Clone(b)
	_, body, _ := wire.Unframe(b)
	_ = append(body, 9, 9, 9, 9)
	body[0] = 77
	same(t, "a datagram whose body was written over", b, kept)
	_, body, _ = wire.Unframe(b)
	clear(b)
	same(t, "a body whose datagram was written over", body, []byte{3, 1})
}
