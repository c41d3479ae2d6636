package wal

import (
	"bytes"

	"quorum/api"
	"quorum/wire"
)

// How a segment and its frames begin.
const (
	magic   = "QLOG"
	version = 1
)

// Sizes, and the places of the parts of a header and of a frame.
const (
	sumSize    = 4
	headerSize = 21
	atBase     = 13
	atSum      = 17
	frameHead  = 12 // bytes of a frame ahead of its body
	frameOver  = 16 // bytes of a frame that are not its body
	atIndex    = 4
	atHeadSum  = 8
)

// maxIndex is the greatest place of a body.
const maxIndex = 1<<31 - 1

// Header gives the first bytes of a segment (P8.5).
func Header(file uint64, base int) ([]byte, error) {
	switch {
	case file == 0 || file > api.MaxSeg:
		return nil, refusal(0, api.ErrArg)
	case base < 0 || base > api.MaxBase:
		return nil, refusal(0, api.ErrWalBase)
	}
	return appendHeader(nil, file, base), nil
}

// Frame gives a body as it lies in a segment (P8.5).
func Frame(index int, body []byte) ([]byte, error) {
	if why := noFrame(index, uint64(len(body))); why != api.OK {
		return nil, refusal(0, why)
	}
	return appendFrame(make([]byte, 0, frameOver+len(body)), index, body), nil
}

// noFrame tells why there is no frame with that index and a body of that size, or OK. Who writes and who reads ask it alike, so that nothing is read that can't be written.
func noFrame(index int, size uint64) api.Errno {
	switch {
	case index < 0 || index > maxIndex:
		return api.ErrArg
	case size > api.MaxBody:
		return api.ErrWalLong
	}
	return api.OK
}

// segment gives the bytes of a new segment with that base, all in one piece.
func segment(file uint64, base [][]byte) []byte {
	b := appendHeader(nil, file, len(base))
	for index, body := range base {
		b = appendFrame(b, index, body)
	}
	return b
}

func appendHeader(b []byte, file uint64, base int) []byte {
	head := append([]byte(magic), version)
	head = appendHigh(head, file, 8)
	head = appendHigh(head, uint64(base), 4)
	return appendSum(append(b, head...), head)
}

// appendFrame lays a frame down. The length has a sum of its own, so that a turned bit in it doesn't lead past the body's sum.
func appendFrame(b []byte, index int, body []byte) []byte {
	head := appendHigh(nil, uint64(len(body)), 4)
	head = appendHigh(head, uint64(index), 4)
	b = appendSum(append(b, head...), head)
	return appendSum(append(b, body...), body)
}

// Scan reads a segment's bytes as far as they are whole (P8.6).
func Scan(file uint64, data []byte) (base int, bodies [][]byte, good int, code api.Errno) {
	base, right := baseOf(file, data)
	if !right {
		return 0, nil, 0, api.ErrWalCorrupt
	}
	bodies, size := wholeFrames(0, data[headerSize:])
	if len(bodies) < base {
		return 0, nil, 0, api.ErrWalCorrupt
	}
	return base, bodies, headerSize + size, api.OK
}

// baseOf tells how many bodies are the base, if the bytes begin with a right header of that file.
func baseOf(file uint64, data []byte) (base int, right bool) {
	if len(data) < headerSize {
		return 0, false
	}
	base = int(high(data[atBase:atSum]))
	header, err := Header(file, base)
	return base, err == nil && bytes.Equal(header, data[:headerSize])
}

// wholeFrames gives the bodies of the whole frames that bytes begin with, the first of them at that index, and how many bytes these frames have.
func wholeFrames(index int, data []byte) (bodies [][]byte, end int) {
frames:
	for {
		rest := data[end:]
		switch {
		case len(rest) < frameOver:
			break frames
		case !summed(rest[:atHeadSum], rest[atHeadSum:frameHead]):
			break frames
		case high(rest[atIndex:atHeadSum]) != uint64(index):
			break frames
		}
		size := high(rest[:atIndex])
		switch {
		case noFrame(index, size) != api.OK:
			break frames
		case size > uint64(len(rest)-frameOver):
			break frames
		}
		body, behind := rest[frameHead:frameHead+size], rest[frameHead+size:]
		if !summed(body, behind[:sumSize]) {
			break frames
		}
		bodies = append(bodies, copied(body))
		end += frameOver + int(size)
		index++
	}
	return bodies, end
}

// summed tells whether these four bytes are the sum of those.
func summed(b, sum []byte) bool { return bytes.Equal(appendSum(nil, b), sum) }

// appendSum lays down the sum of some bytes, its low byte first.
func appendSum(b, of []byte) []byte {
	sum := wire.Sum(of)
	return append(b, byte(sum), byte(sum>>8), byte(sum>>16), byte(sum>>24))
}

// high reads a number, its high byte first.
func high(b []byte) uint64 {
	var v uint64
	for _, c := range b {
		v = v<<8 | uint64(c)
	}
	return v
}

// appendHigh lays the lowest size bytes of a number down, the high one first.
func appendHigh(b []byte, v uint64, size int) []byte {
	for i := size - 1; i >= 0; i-- {
		b = append(b, byte(v>>(8*i)))
	}
	return b
}
