package snap

import (
	"math/bits"
	"slices"
)

// The words that every sum begins with, and those that are mixed into each block. Both are filled when the program starts, and only read from then on.
var (
	firstState [8]uint32
	roundWords [64]uint32
)

func init() {
	primes := firstPrimes(len(roundWords))
	for i := range firstState {
		firstState[i] = squareRoot(primes[i])
	}
	for i := range roundWords {
		roundWords[i] = cubeRoot(primes[i])
	}
}

// firstPrimes gives so many primes, from 2 on.
func firstPrimes(n int) []uint64 {
	var primes []uint64
	for next := uint64(2); len(primes) < n; next++ {
		divides := func(p uint64) bool { return next%p == 0 }
		if !slices.ContainsFunc(primes, divides) {
			primes = append(primes, next)
		}
	}
	return primes
}

// The roots below are taken 2^32 times as great, so that the bits behind the point become the low ones of a whole number. No root of a prime is a whole number, so it makes no odds that only powers below the goal are looked for.

// squareRoot gives the first 32 bits behind the point of a prime's square root.
func squareRoot(p uint64) uint32 { return uint32(greatestBelow(p, squareHigh)) }

// cubeRoot gives the first 32 bits behind the point of a prime's cube root.
func cubeRoot(p uint64) uint32 { return uint32(greatestBelow(p<<32, cubeHigh)) }

// rootBits is the number of bits that the roots have: three ahead of the point, as the cube root of 311 is below 8, and 32 behind it.
const rootBits = 3 + 32

// greatestBelow gives the greatest number whose power is below the goal times 2^64, bit by bit from the highest on.
func greatestBelow(goal uint64, high func(uint64) uint64) uint64 {
	var root uint64
	for bit := rootBits - 1; bit >= 0; bit-- {
		if next := root | 1<<bit; high(next) < goal {
			root = next
		}
	}
	return root
}

// squareHigh gives the bits of a number's square from the 64th on.
func squareHigh(x uint64) uint64 {
	high, _ := bits.Mul64(x, x)
	return high
}

// cubeHigh gives the bits of a number's cube from the 64th on, for a number of at most rootBits bits.
func cubeHigh(x uint64) uint64 {
	high, low := bits.Mul64(x, x)
	carried, _ := bits.Mul64(low, x)
	return high*x + carried
}
