package crc_test

import (
	"math/bits"
	"testing"

	"citadel/crc"
)

// P2.3 (incremental computation): split at every place, and in pieces of every size.
func TestSumOfPieces(t *testing.T) {
	b := mixed(40, 7)
	want := crc.Sum(b)
	for i := range len(b) + 1 {
		for j := i; j <= len(b); j++ {
			got := uint32(0)
			for _, piece := range [][]byte{b[:i], b[i:j], b[j:]} {
				got = crc.Add(got, piece)
			}
			if got != want {
				t.Errorf("pieces split at %d and %d: %08x, want %08x", i, j, got, want)
			}
		}
	}
	for n := 1; n <= len(b); n++ {
		got := uint32(0)
		for rest := b; len(rest) > 0; {
			size := min(n, len(rest))
			got = crc.Add(got, rest[:size])
			got = crc.Add(got, nil) // a piece of no bytes changes nothing
			rest = rest[size:]
		}
		if got != want {
			t.Errorf("pieces of %d bytes: %08x, want %08x", n, got, want)
		}
	}
	if got := crc.Add(crc.Add(0, nil), []byte{}); got != crc.Sum(nil) {
		t.Errorf("no bytes in two pieces: %08x", got)
	}
}

// P2.4 (error detection): sequences of one and of two bytes have sums of their own.
func TestSumsOfShort(t *testing.T) {
	seen := map[uint32]bool{}
	for i := range 256 {
		seen[crc.Sum([]byte{byte(i)})] = true
	}
	if len(seen) != 256 {
		t.Errorf("256 single bytes have %d checksums", len(seen))
	}
	clear(seen)
	for i := range 1 << 16 {
		seen[crc.Sum([]byte{9, byte(i >> 8), byte(i), 9})] = true
	}
	if len(seen) != 1<<16 {
		t.Errorf("65536 pairs of bytes have %d checksums", len(seen))
	}
}

// P2.4 (error detection): differences of one byte, of two bits, and of mixed bits, within 4 bytes.
func TestErrorsDetected(t *testing.T) {
	for _, n := range []int{1, 2, 3, 4, 5, 8, 9, 64} {
		b := mixed(n, uint32(n))
		sum := crc.Sum(b)
		for at := range n {
			for _, diff := range differences() {
				turned := turnedAt(b, at, diff)
				if string(turned) != string(b) && crc.Sum(turned) == sum {
					t.Errorf("%d bytes, %08x at %d: not detected", n, diff, at)
				}
			}
		}
	}
}

func differences() []uint32 {
	var l []uint32
	for x := uint32(1); x < 256; x++ {
		l = append(l, x<<24, x)
	}
	for i := range 32 {
		for j := range i {
			l = append(l, 1<<i|1<<j, ^uint32(0)>>i<<j)
		}
	}
	x := uint32(1)
	for range 500 {
		x = x*1664525 + 1013904223
		l = append(l, x)
	}
	return append(l, 0xedb88320, bits.Reverse32(0xedb88320), ^uint32(0))
}

// turnedAt returns b with the four bytes from at turned by diff, as far as b has them.
func turnedAt(b []byte, at int, diff uint32) []byte {
	turned := append([]byte{}, b...)
	for i := 0; i < 4 && at+i < len(b); i++ {
		turned[at+i] ^= byte(diff >> (24 - 8*i))
	}
	return turned
}

// P2.4 (error detection): no difference within 4 bytes whatever is missed. By P2.5 the sum's change is the XOR of what each turned bit changes, so it suffices that these 32 changes are independent.
func TestNoErrorMissed(t *testing.T) {
	for _, n := range []int{4, 5, 60, 64} {
		b := mixed(n, 3)
		sum := crc.Sum(b)
		for at := range n - 3 {
			var changes []uint32
			for i := range 32 {
				changes = append(changes, crc.Sum(turnedAt(b, at, 1<<i))^sum)
			}
			if got := rank(changes); got != 32 {
				t.Errorf("%d bytes, at %d: rank %d", n, at, got)
			}
		}
	}
}

// rank: how many of the rows are independent under XOR.
func rank(rows []uint32) int {
	var lead [33]uint32 // by the place of the highest bit
	n := 0
	for _, row := range rows {
		for row != 0 && lead[bits.Len32(row)] != 0 {
			row ^= lead[bits.Len32(row)]
		}
		if row != 0 {
			lead[bits.Len32(row)] = row
			n++
		}
	}
	return n
}

// P2.5 (affinity)
func TestAffinity(t *testing.T) {
	for _, n := range []int{0, 1, 2, 3, 4, 5, 31, 64, 1000} {
		for i := range uint32(20) {
			a, b, c := mixed(n, 3*i), mixed(n, 3*i+1), mixed(n, 3*i+2)
			if i == 0 {
				a, b = filled(n, 0), filled(n, 255)
			}
			all := make([]byte, n)
			for j := range all {
				all[j] = a[j] ^ b[j] ^ c[j]
			}
			if got, want := crc.Sum(a)^crc.Sum(b)^crc.Sum(c), crc.Sum(all); got != want {
				t.Errorf("%d bytes: %08x, want %08x", n, got, want)
			}
		}
	}
	a := []byte("123456789")
	if crc.Sum(a)^crc.Sum(a)^crc.Sum(a) != crc.Sum(a) {
		t.Error("three equal sequences")
	}
}
