package snap

import (
	"math/bits"

	"quorum/api"
)

// What stands ahead of the bytes that are summed, so that no row is taken for a leaf.
const (
	leafMark = 0x00
	rowMark  = 0x01
)

// Chunks tells how many chunks so many bytes have (P6.5).
func Chunks(size int) int {
	switch {
	case size < 0:
		return 0
	case size == 0:
		return 1
	}
	return (size-1)/api.ChunkSize + 1
}

func isChunk(size, i int) bool { return i >= 0 && i < Chunks(size) }

// Chunk gives a chunk (P6.5).
func Chunk(data []byte, i int) ([]byte, error) {
	if !isChunk(len(data), i) {
		return nil, refusal(i, api.ErrSnapIndex)
	}
	from := i * api.ChunkSize
	return append([]byte(nil), data[from:from+chunkSize(len(data), i)]...), nil
}

// chunkSize tells how many bytes one of the chunks of so many bytes has.
func chunkSize(size, i int) int { return min(api.ChunkSize, size-i*api.ChunkSize) }

// Root is the sum at the top of the tree of chunks (P6.6).
func Root(data []byte) api.Hash { return rowSum(data) }

// rowSum gives the sum of the row of the chunks that the bytes are cut into. (A row begins where a chunk begins, so its bytes are cut as they are in the whole.)
func rowSum(row []byte) api.Hash {
	n := Chunks(len(row))
	if n == 1 {
		return leafSum(row)
	}
	cut := firstHalf(n) * api.ChunkSize
	return pairSum(rowSum(row[:cut]), rowSum(row[cut:]))
}

// firstHalf tells how many of the chunks of a row lie in its first half: the greatest power of two below their number, which is at least 2.
func firstHalf(n int) int { return 1 << (bits.Len(uint(n-1)) - 1) }

func leafSum(chunk []byte) api.Hash {
	h := New()
	h.Write([]byte{leafMark})
	h.Write(chunk)
	return h.Sum()
}

func pairSum(first, others api.Hash) api.Hash {
	h := New()
	h.Write([]byte{rowMark})
	h.Write(first[:])
	h.Write(others[:])
	return h.Sum()
}

// Path gives the sums beside the way from a chunk to the root (P6.7).
func Path(data []byte, i int) ([]api.Hash, error) {
	if !isChunk(len(data), i) {
		return nil, refusal(i, api.ErrSnapIndex)
	}
	return pathIn(data, i), nil
}

// pathIn gives the sums beside the way from a chunk of a row to the row's sum, the lowest first.
func pathIn(row []byte, i int) []api.Hash {
	n := Chunks(len(row))
	if n == 1 {
		return nil
	}
	half := firstHalf(n)
	first, others := row[:half*api.ChunkSize], row[half*api.ChunkSize:]
	if i < half {
		return append(pathIn(first, i), rowSum(others))
	}
	return append(pathIn(others, i-half), rowSum(first))
}

// Verify tells whether a chunk belongs to a root (P6.8).
func Verify(root api.Hash, size, i int, chunk []byte, path []api.Hash) error {
	n := Chunks(size)
	switch {
	case size < 0 || size > api.MaxSnap:
		return refusal(0, api.ErrSnapSize)
	case !isChunk(size, i):
		return refusal(i, api.ErrSnapIndex)
	case len(chunk) != chunkSize(size, i):
		return refusal(1, api.ErrSnapSize)
	case len(path) != pathLength(n, i):
		return refusal(len(path), api.ErrSnapPath)
	case topSum(n, i, leafSum(chunk), path) != root:
		return refusal(0, api.ErrSnapRoot)
	}
	return nil
}

// pathLength tells how many sums lie beside the way from a chunk of a row of n to the row's sum.
func pathLength(n, i int) int {
	if n == 1 {
		return 0
	}
	half := firstHalf(n)
	if i < half {
		return 1 + pathLength(half, i)
	}
	return 1 + pathLength(n-half, i-half)
}

// topSum gives the sum that a leaf's sum and its path lead to in a row of n chunks. The path has just as many sums as it must.
func topSum(n, i int, leaf api.Hash, path []api.Hash) api.Hash {
	if n == 1 {
		return leaf
	}
	half := firstHalf(n)
	below, beside := path[:len(path)-1], path[len(path)-1]
	if i < half {
		return pairSum(topSum(half, i, leaf, below), beside)
	}
	return pairSum(beside, topSum(n-half, i-half, leaf, below))
}
