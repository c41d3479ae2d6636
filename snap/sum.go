package snap

import (
	"math/bits"

	"quorum/api"
)

// blockSize is the number of bytes that are mixed into the state at a time.
const blockSize = 64

// Hasher takes bytes in pieces (P6.1).
type Hasher struct {
	made  bool
	state [8]uint32       // behind the last whole block
	block [blockSize]byte // begins with the bytes that make no whole block yet
	size  uint64          // of all bytes so far
}

// New begins a sum (P6.1).
func New() *Hasher { return &Hasher{made: true, state: firstState} }

// Write takes more bytes (P6.1).
func (h *Hasher) Write(b []byte) {
	if h == nil || !h.made {
		return
	}
	for len(b) > 0 {
		n := copy(h.block[h.size%blockSize:], b)
		b = b[n:]
		h.size += uint64(n)
		if h.size%blockSize == 0 {
			h.state = mixed(h.state, h.block)
		}
	}
}

// Sum tells the sum of all bytes so far (P6.1).
func (h *Hasher) Sum() api.Hash {
	if h == nil || !h.made {
		return api.Hash{}
	}
	whole := *h // the end is laid behind a copy, so that more may be written here
	whole.Write(ending(h.size))
	var sum api.Hash
	for i, word := range whole.state {
		layWord(sum[4*i:], word)
	}
	return sum
}

// Sum is the SHA-256 of the bytes (P6.1).
func Sum(b []byte) api.Hash {
	h := New()
	h.Write(b)
	return h.Sum()
}

// ending gives what is laid behind so many bytes to make whole blocks of them.
func ending(size uint64) []byte {
	zeros := (blockSize - 9 - size) % blockSize // below 0 it turns round, which a power of two does not mind
	end := make([]byte, 1+zeros+8)
	end[0] = 0x80
	layWord(end[1+zeros:], uint32(8*size>>32))
	layWord(end[1+zeros+4:], uint32(8*size))
	return end
}

// layWord lays a word down, the high byte first.
func layWord(b []byte, word uint32) {
	for i := range 4 {
		b[i] = byte(word >> (24 - 8*i))
	}
}

// rot turns a word to the right.
func rot(x uint32, n int) uint32 { return bits.RotateLeft32(x, -n) }

// mixed gives the state behind one more block.
func mixed(state [8]uint32, block [blockSize]byte) [8]uint32 {
	w := spread(block)
	a, b, c, d := state[0], state[1], state[2], state[3]
	e, f, g, h := state[4], state[5], state[6], state[7]
	for t := range w {
		u := h + (rot(e, 6) ^ rot(e, 11) ^ rot(e, 25)) + (e&f ^ ^e&g) + roundWords[t] + w[t]
		v := (rot(a, 2) ^ rot(a, 13) ^ rot(a, 22)) + (a&b ^ a&c ^ b&c)
		h, g, f, e, d, c, b, a = g, f, e, d+u, c, b, a, u+v
	}
	for i, word := range [...]uint32{a, b, c, d, e, f, g, h} {
		state[i] += word
	}
	return state
}

// spread gives the words W0 .. W63 of a block.
func spread(block [blockSize]byte) [64]uint32 {
	var w [64]uint32
	for i, c := range block {
		w[i/4] = w[i/4]<<8 | uint32(c)
	}
	for t := 16; t < len(w); t++ {
		early, late := w[t-15], w[t-2]
		w[t] = w[t-16] + (rot(early, 7) ^ rot(early, 18) ^ early>>3) + w[t-7] + (rot(late, 17) ^ rot(late, 19) ^ late>>10)
	}
	return w
}
