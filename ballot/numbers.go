package ballot

import (
	"math/bits"
	"slices"

	"quorum/api"
)

// Add adds up to a bound (P9.8).
func Add(a, b, most uint64) uint64 {
	sum, over := bits.Add64(a, b, 0)
	if over != 0 {
		return most
	}
	return min(sum, most)
}

// Mark tells the k-th highest of the marks (P9.8).
func Mark(marks []uint64, k int) (uint64, error) {
	if k < 1 || k > len(marks) {
		return 0, refusal(0, api.ErrBallotRank)
	}
	rising := slices.Sorted(slices.Values(marks))
	return rising[len(rising)-k], nil
}
