// Package wire lays messages, batches and records down as bytes, in one form each, and reads them back: see doc/01-wire.md.
package wire

import "quorum/api"

// Where the parts of a datagram's head begin.
const (
	atVersion = 2
	atKind    = 3
	atLength  = 4
)

// Sixteen words, not 256: half a byte at a time keeps the table short.
var sumTable = [16]uint32{
	0x00000000, 0x105ec76f, 0x20bd8ede, 0x30e349b1,
	0x417b1dbc, 0x5125dad3, 0x61c69362, 0x7198540d,
	0x82f63b78, 0x92a8fc17, 0xa24bb5a6, 0xb21572c9,
	0xc38d26c4, 0xd3d3e1ab, 0xe330a81a, 0xf36e6f75,
}

// Sum is the CRC-32C of the bytes (P1.1).
func Sum(b []byte) uint32 {
	sum := ^uint32(0)
	for _, c := range b {
		sum ^= uint32(c)
		sum = sum>>4 ^ sumTable[sum&15]
		sum = sum>>4 ^ sumTable[sum&15]
	}
	return ^sum
}

// Frame lays a kind and a body down as a datagram (P1.2).
func Frame(kind uint8, body []byte) ([]byte, error) {
	if len(body) > api.MaxFrame-api.WireOver {
		return nil, refusal(api.MaxFrame, api.ErrWireLong)
	}
	b := make([]byte, 0, api.WireOver+len(body))
	b = appendHigh(b, api.WireMagic, 2)
	b = append(b, api.WireVersion, kind)
	b = appendHigh(b, uint64(len(body)), 4)
	b = append(b, body...)
	// The low byte goes first so that the bits of the sum follow on those that it was made of: only then is every run of 32 turned bits noticed that reaches into it.
	sum := Sum(b)
	return append(b, byte(sum), byte(sum>>8), byte(sum>>16), byte(sum>>24)), nil
}

// Unframe reads a datagram back (P1.3).
func Unframe(b []byte) (uint8, []byte, error) {
	if at, why := frameFault(b); why != api.OK {
		return 0, nil, refusal(at, why)
	}
	return b[atKind], copied(b[api.WireHead : len(b)-4]), nil
}

// frameFault tells the first reason for which the bytes are no datagram, and its place.
func frameFault(b []byte) (int, api.Errno) {
	switch {
	case len(b) > api.MaxFrame:
		return api.MaxFrame, api.ErrWireLong
	case len(b) < api.WireOver:
		return len(b), api.ErrWireShort
	case high(b[:atVersion]) != api.WireMagic:
		return 0, api.ErrWireMagic
	case b[atVersion] != api.WireVersion:
		return atVersion, api.ErrWireVersion
	}
	// As 64 bits: a length near 2^32 must not come round to a small one.
	whole := api.WireOver + high(b[atLength:api.WireHead])
	end := len(b) - 4
	switch {
	case uint64(len(b)) < whole:
		return len(b), api.ErrWireShort
	case uint64(len(b)) > whole:
		return int(whole), api.ErrWireTail
	case Sum(b[:end]) != lowSum(b[end:]):
		return end, api.ErrWireSum
	}
	return 0, api.OK
}

// lowSum reads a sum, its low byte first.
func lowSum(b []byte) uint32 {
	return uint32(b[0]) | uint32(b[1])<<8 | uint32(b[2])<<16 | uint32(b[3])<<24
}

// high reads a number, its high byte first.
func high(b []byte) uint64 {
	var v uint64
	for _, c := range b {
		v = v<<8 | uint64(c)
	}
	return v
}

// appendHigh lays the lowest size bytes of a number down, the high one first.
func appendHigh(b []byte, v uint64, size int) []byte {
	for i := size - 1; i >= 0; i-- {
		b = append(b, byte(v>>(8*i)))
	}
	return b
}

// copied gives bytes of their own, and nil for none.
func copied(b []byte) []byte {
	if len(b) == 0 {
		return nil
	}
	c := make([]byte, len(b))
	copy(c, b)
	return c
}
