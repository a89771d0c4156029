package sha

import "math/bits"

// rootBits: the roots of the primes, square and cube, are less than 8: 3 bits ahead of the point, and 32 behind it.
const rootBits = 3 + 32

// primes: the first 64.
var primes = [rounds]uint64{
	2, 3, 5, 7, 11, 13, 17, 19, 23, 29, 31, 37, 41, 43, 47, 53,
	59, 61, 67, 71, 73, 79, 83, 89, 97, 101, 103, 107, 109, 113, 127, 131,
	137, 139, 149, 151, 157, 163, 167, 173, 179, 181, 191, 193, 197, 199, 211, 223,
	227, 229, 233, 239, 241, 251, 257, 263, 269, 271, 277, 281, 283, 293, 307, 311,
}

// constants returns those of the rounds.
func constants() [rounds]uint32 {
	var k [rounds]uint32
	for i := range k {
		k[i] = fraction(primes[i], beyondCube)
	}
	return k
}

// fraction returns the first 32 bits behind the point of a root of p; beyond tells whether x, in parts of 2^32, is greater than that root.
func fraction(p uint64, beyond func(x, p uint64) bool) uint32 {
	var root uint64
	for bit := uint64(1) << (rootBits - 1); bit > 0; bit >>= 1 {
		if !beyond(root|bit, p) {
			root |= bit
		}
	}
	return uint32(root)
}

// beyondSquare: x*x is held against p * 2^64.
func beyondSquare(x, p uint64) bool {
	high, low := bits.Mul64(x, x)
	return high > p || high == p && low > 0
}

// beyondCube: x*x*x is held against p * 2^96.
func beyondCube(x, p uint64) bool {
	high, low := bits.Mul64(x, x)
	carry, low := bits.Mul64(low, x)
	high = high*x + carry
	return high > p<<32 || high == p<<32 && low > 0
}
