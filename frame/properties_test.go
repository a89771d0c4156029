package frame_test

import (
	"bytes"
	"math/bits"
	"math/rand"
	"testing"

	"citadel/frame"
)

// P7.3 (round trip): what was sealed is opened, for its own kind alone, and sealed again it is the same sector.
func TestRoundTrip(t *testing.T) {
	for _, b := range payloads() {
		for _, kind := range kinds {
			s := sealed(t, kind, b)
			opens(t, s, kind, b)
			opened, _ := frame.Open(kind, s)
			if again := sealed(t, kind, opened); !bytes.Equal(again, s) {
				t.Errorf("kind %d: %v, sealed again %v", kind, s, again)
			}
		}
	}
}

// P7.3 (round trip): of all sectors with a checksum that fits, just those are opened that Seal returns.
func TestOpenedIsSealed(t *testing.T) {
	from := rand.New(rand.NewSource(73))
	opened, other := 0, 0
	for range 4000 {
		s := body(byte(from.Uint32()), byte(from.Intn(62)), mixed(from.Intn(59), from.Uint32()))
		s = summed(s)
		kind, ok := frame.Kind(s)
		if !ok {
			refused(t, "not sealed", s)
			for n := range 59 {
				if bytes.Equal(sealed(t, s[0], s[2:2+n]), s) {
					t.Errorf("%v is what Seal returns", s)
				}
			}
			other++
			continue
		}
		b, _ := frame.Open(kind, s)
		if !bytes.Equal(sealed(t, kind, b), s) {
			t.Errorf("%v is opened as %d, %v", s, kind, b)
		}
		opened++
	}
	if opened < 200 || other < 200 {
		t.Errorf("%d are opened, %d are not", opened, other)
	}
}

// P7.3 (round trip): other kinds and other payloads are other sectors.
func TestSectorsDiffer(t *testing.T) {
	type content struct {
		kind    byte
		payload string
	}
	seen := map[string]content{}
	put := func(kind byte, b []byte) {
		is := content{kind, string(b)}
		s := string(sealed(t, kind, b))
		if was, ok := seen[s]; ok && was != is {
			t.Errorf("%v and %v are one sector", was, is)
		}
		seen[s] = is
	}
	for i := range 256 {
		for _, b := range [][]byte{nil, {0}, {0, 0}, {byte(i)}, make([]byte, 57), make([]byte, 58), mixed(58, 9)} {
			put(byte(i), b)
		}
		for n := range 59 {
			put(7, filled(n, byte(i)))
		}
	}
}

// turned returns s with the four bytes from at turned by diff, as far as they lie ahead of end.
func turned(s []byte, at, end int, diff uint32) []byte {
	x := bytes.Clone(s)
	for i := 0; i < 4 && at+i < end; i++ {
		x[at+i] ^= byte(diff >> (24 - 8*i))
	}
	return x
}

// parts: where the bytes lie that are changed together.
var parts = []struct{ from, end int }{{0, 60}, {60, 64}}

func corruptible() [][]byte {
	l := [][]byte{summed(make([]byte, 60)), sector(0, make([]byte, 58)), sector(255, filled(30, 255))}
	for _, n := range []int{0, 1, 28, 57, 58} {
		l = append(l, sector(7, mixed(n, uint32(n))))
	}
	return l
}

// P7.4 (corruption): one byte, turned into every other one.
func TestOneByteChanged(t *testing.T) {
	for _, s := range corruptible() {
		for at := range s {
			for x := 1; x < 256; x++ {
				c := bytes.Clone(s)
				c[at] ^= byte(x)
				refused(t, "one byte changed", c)
			}
		}
	}
}

// P7.4 (corruption): up to 4 bytes, with few bits turned, with many, and with mixed ones.
func TestBytesChanged(t *testing.T) {
	for _, s := range corruptible() {
		for _, p := range parts {
			for at := p.from; at < p.end; at++ {
				for _, diff := range differences() {
					if c := turned(s, at, p.end, diff); !bytes.Equal(c, s) {
						refused(t, "up to 4 bytes changed", c)
					}
				}
			}
		}
	}
}

func differences() []uint32 {
	l := []uint32{0xedb88320, bits.Reverse32(0xedb88320), 0x01020304, 0x80808080, ^uint32(0)}
	x := uint32(1)
	for i := range 32 {
		x = x*1664525 + 1013904223
		l = append(l, 1<<i, 1<<31|1<<i, ^uint32(0)<<i, x, x>>8<<8, x>>16<<16)
	}
	return l
}

// P7.4 (corruption): changes that leave everything right but the checksum, of the kind, of the length and of the payload.
func TestLikelyChanges(t *testing.T) {
	for n := range 59 {
		b := mixed(n, uint32(n))
		s := sector(7, b)
		for length := range 59 {
			for _, kind := range []byte{0, 6, 7, 8, 255} {
				if kind != 7 || length != n {
					c := bytes.Clone(s)
					c[0], c[1] = kind, byte(length)
					refused(t, "other kind or length", c)
				}
			}
		}
		for at := 2; at < 2+n; at++ {
			for size := 1; size <= 4 && at+size <= 2+n; size++ {
				c := bytes.Clone(s)
				clear(c[at : at+size])
				refused(t, "bytes of the payload are zero", c)
				copy(c[at:at+size], filled(size, 255))
				if !bytes.Equal(c, s) {
					refused(t, "bytes of the payload are 255", c)
				}
			}
		}
		for at := 2 + n; at <= 56; at++ {
			c := bytes.Clone(s)
			copy(c[at:], mixed(4, uint32(at)))
			refused(t, "bytes behind the payload", c)
		}
	}
}

// P7.4 (corruption): the encoding of another sector's checksum.
func TestSwappedSums(t *testing.T) {
	l := corruptible()
	for i, s := range l {
		for j, x := range l {
			if i != j && !bytes.Equal(s, x) {
				refused(t, "the checksum of another sector", append(bytes.Clone(s[:60]), x[60:]...))
			}
		}
	}
}
