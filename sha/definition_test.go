package sha_test

import (
	"encoding/binary"
	"math/big"

	"citadel/sha"
)

// constants: the 64 of FIPS 180-4, as they stand there.
func constants() [64]uint32 {
	return [64]uint32{
		0x428a2f98, 0x71374491, 0xb5c0fbcf, 0xe9b5dba5, 0x3956c25b, 0x59f111f1, 0x923f82a4, 0xab1c5ed5,
		0xd807aa98, 0x12835b01, 0x243185be, 0x550c7dc3, 0x72be5d74, 0x80deb1fe, 0x9bdc06a7, 0xc19bf174,
		0xe49b69c1, 0xefbe4786, 0x0fc19dc6, 0x240ca1cc, 0x2de92c6f, 0x4a7484aa, 0x5cb0a9dc, 0x76f988da,
		0x983e5152, 0xa831c66d, 0xb00327c8, 0xbf597fc7, 0xc6e00bf3, 0xd5a79147, 0x06ca6351, 0x14292967,
		0x27b70a85, 0x2e1b2138, 0x4d2c6dfc, 0x53380d13, 0x650a7354, 0x766a0abb, 0x81c2c92e, 0x92722c85,
		0xa2bfe8a1, 0xa81a664b, 0xc24b8b70, 0xc76c51a3, 0xd192e819, 0xd6990624, 0xf40e3585, 0x106aa070,
		0x19a4c116, 0x1e376c08, 0x2748774c, 0x34b0bcb5, 0x391c0cb3, 0x4ed8aa4a, 0x5b9cca4f, 0x682e6ff3,
		0x748f82ee, 0x78a5636f, 0x84c87814, 0x8cc70208, 0x90befffa, 0xa4506ceb, 0xbef9a3f7, 0xc67178f2,
	}
}

func primes(n int) []int64 {
	var l []int64
	for x := int64(2); len(l) < n; x++ {
		if big.NewInt(x).ProbablyPrime(10) {
			l = append(l, x)
		}
	}
	return l
}

// fraction: the first 32 bits behind the point of the root of p, of degree 2 or 3.
func fraction(p int64, degree int64) uint32 {
	parts := new(big.Int).Lsh(big.NewInt(p), uint(32*degree)) // p, where the root is counted in parts of 2^32
	root := new(big.Int)
	for bit := 40; bit >= 0; bit-- {
		next := new(big.Int).SetBit(root, bit, 1)
		if new(big.Int).Exp(next, big.NewInt(degree), nil).Cmp(parts) <= 0 {
			root = next
		}
	}
	return uint32(root.Uint64())
}

// compressed is the definition of the chapter, bit by bit where it speaks of bits.
func compressed(s sha.State, block []byte, k [64]uint32) sha.State {
	var w [64]uint32
	for i := range 16 {
		w[i] = binary.BigEndian.Uint32(block[4*i:])
	}
	for i := 16; i < 64; i++ {
		x, y := w[i-15], w[i-2]
		p := rotated(x, 7) ^ rotated(x, 18) ^ x>>3
		q := rotated(y, 17) ^ rotated(y, 19) ^ y>>10
		w[i] = w[i-16] + w[i-7] + p + q
	}
	v := s
	for i := range 64 {
		t := v[7] + (rotated(v[4], 6) ^ rotated(v[4], 11) ^ rotated(v[4], 25)) + choice(v[4], v[5], v[6]) + k[i] + w[i]
		u := (rotated(v[0], 2) ^ rotated(v[0], 13) ^ rotated(v[0], 22)) + most(v[0], v[1], v[2])
		v = sha.State{t + u, v[0], v[1], v[2], v[3] + t, v[4], v[5], v[6]}
	}
	for i := range v {
		v[i] += s[i]
	}
	return v
}

func rotated(x uint32, n int) uint32 { return x>>n | x<<(32-n) }

func choice(e, f, g uint32) uint32 {
	var c uint32
	for bit := range 32 {
		if e>>bit&1 == 1 {
			c |= f & (1 << bit)
		} else {
			c |= g & (1 << bit)
		}
	}
	return c
}

func most(a, b, c uint32) uint32 {
	var m uint32
	for bit := range 32 {
		if a>>bit&1+b>>bit&1+c>>bit&1 >= 2 {
			m |= 1 << bit
		}
	}
	return m
}
