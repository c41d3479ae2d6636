package wal_test

import (
	"bytes"
	"encoding/binary"
	"hash/crc32"

	"quorum/api"
)

// A second layout of segments, by the library's own sums and numbers.

func sum(b []byte) []byte {
	return binary.LittleEndian.AppendUint32(nil, crc32.Checksum(b, crc32.MakeTable(crc32.Castagnoli)))
}

func withSum(b []byte) []byte { return append(bytes.Clone(b), sum(b)...) }

func plainHeader(number uint64, base uint32) []byte {
	b := binary.BigEndian.AppendUint64([]byte("QLOG\x01"), number)
	return withSum(binary.BigEndian.AppendUint32(b, base))
}

func plainFrame(index uint32, body []byte) []byte {
	head := binary.BigEndian.AppendUint32(nil, uint32(len(body)))
	head = withSum(binary.BigEndian.AppendUint32(head, index))
	return append(head, withSum(body)...)
}

// plainSegment gives the bytes of a segment with these bodies.
func plainSegment(number uint64, base int, bodies ...string) string {
	b := plainHeader(number, uint32(base))
	for i, s := range bodies {
		b = append(b, plainFrame(uint32(i), []byte(s))...)
	}
	return string(b)
}

// scanned is what Scan tells.
type scanned struct {
	base   int
	bodies [][]byte
	good   int
	code   api.Errno
}

// plainScan takes the chapter's words as they stand: it tries every base, and at each place every body that could lie there.
func plainScan(number uint64, data []byte) scanned {
	for base := range 65 {
		if number == 0 || number > 1<<62 || !bytes.HasPrefix(data, plainHeader(number, uint32(base))) {
			continue
		}
		s := scanned{base: base, good: 21}
		for {
			body, whole := plainBody(uint32(len(s.bodies)), data[s.good:])
			if !whole {
				break
			}
			s.good += 16 + len(body)
			s.bodies = append(s.bodies, list(string(body)))
		}
		if len(s.bodies) >= base {
			return s
		}
	}
	return scanned{code: 167}
}

// plainBody looks for the body with whose frame the bytes begin.
func plainBody(index uint32, data []byte) ([]byte, bool) {
	for size := 0; size <= 60000 && size+16 <= len(data); size++ {
		body := data[12 : 12+size]
		// The first four bytes alone leave out all sizes but one, ahead of the sums.
		if int(binary.BigEndian.Uint32(data)) == size && bytes.HasPrefix(data, plainFrame(index, body)) {
			return body, true
		}
	}
	return nil, false
}
