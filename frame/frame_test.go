package frame_test

import (
	"bytes"
	"hash/crc32"
	"testing"

	"citadel/api"
	"citadel/frame"
)

func filled(n int, x byte) []byte { return bytes.Repeat([]byte{x}, n) }

// mixed returns n bytes without a plain pattern, none of which is 0, others for another start.
func mixed(n int, start uint32) []byte {
	b := make([]byte, n)
	x := start*2654435761 + 12345
	for i := range b {
		x = x*1664525 + 1013904223
		b[i] = byte(x>>24) | 1
	}
	return b
}

// summed returns b followed by the encoding of its checksum.
func summed(b []byte) []byte {
	c := crc32.ChecksumIEEE(b)
	return append(bytes.Clone(b), byte(c>>24), byte(c>>16), byte(c>>8), byte(c))
}

// sector is the chapter's definition of a framed sector, for a payload of at most 58 bytes.
func sector(kind byte, b []byte) []byte {
	s := make([]byte, 60)
	s[0], s[1] = kind, byte(len(b))
	copy(s[2:], b)
	return summed(s)
}

// body returns 60 bytes that state a kind and a length, whatever follows them.
func body(kind, length byte, behind []byte) []byte {
	s := make([]byte, 60)
	s[0], s[1] = kind, length
	copy(s[2:], behind)
	return s
}

var kinds = []byte{0, 1, 2, 7, 58, 59, 64, 127, 128, 254, 255}

// payloads: of every length that a sector has room for, plain and mixed.
func payloads() [][]byte {
	l := [][]byte{nil, {}, []byte("ab")}
	for n := range 59 {
		l = append(l, filled(n, 0), filled(n, 255), mixed(n, uint32(n)))
	}
	return l
}

// opens holds s to be a framed sector of that kind and payload, and of no other kind.
func opens(t *testing.T, s []byte, kind byte, want []byte) {
	t.Helper()
	if k, ok := frame.Kind(s); !ok || k != kind {
		t.Errorf("Kind(%v) = %d, %v, want %d", s, k, ok, kind)
	}
	if b, e := frame.Open(kind, s); e != api.OK || !bytes.Equal(b, want) {
		t.Errorf("Open(%d, %v) = %v, %d, want %v", kind, s, b, e, want)
	}
	for i := range 8 {
		closed(t, s, kind^1<<i)
	}
	closed(t, s, ^kind)
}

// closed holds s to be no framed sector of that kind.
func closed(t *testing.T, s []byte, kind byte) {
	t.Helper()
	if b, e := frame.Open(kind, s); e != api.ErrFrame || b != nil {
		t.Errorf("Open(%d, %v) = %v, %d, want ErrFrame", kind, s, b, e)
	}
}

// refused holds s to be no framed sector, of whatever kind.
func refused(t *testing.T, why string, s []byte) {
	t.Helper()
	if k, ok := frame.Kind(s); ok || k != 0 {
		t.Errorf("%s: Kind(%v) = %d, %v", why, s, k, ok)
	}
	if len(s) > 0 && s[0] != 0 {
		closed(t, s, s[0])
	}
	closed(t, s, 0)
}

func sealed(t *testing.T, kind byte, b []byte) []byte {
	t.Helper()
	s, e := frame.Seal(kind, b)
	if e != api.OK || len(s) != 64 {
		t.Fatalf("Seal(%d, %v) = %v, %d", kind, b, s, e)
	}
	return s
}

// P7.1 (Seal): the chapter's example.
func TestSealOfText(t *testing.T) {
	s := sealed(t, 7, []byte("ab"))
	if !bytes.Equal(s[:5], []byte{7, 2, 97, 98, 0}) || len(s) != 64 {
		t.Errorf("Seal(7, ab) = %v", s)
	}
	opens(t, s, 7, []byte("ab"))
}

// P7.1 (Seal): sectors whose checksum was worked out elsewhere.
func TestSealOfKnown(t *testing.T) {
	for _, c := range []struct {
		kind byte
		text string
		sum  []byte
	}{
		{0, "", []byte{0x04, 0x12, 0x89, 0x08}},
		{7, "ab", []byte{0x63, 0x8f, 0x21, 0x6d}},
	} {
		if s := sealed(t, c.kind, []byte(c.text)); !bytes.Equal(s[60:], c.sum) {
			t.Errorf("Seal(%d, %q) ends with %x, want %x", c.kind, c.text, s[60:], c.sum)
		}
	}
}

// P7.1 (Seal): every length, and kinds from 0 to 255.
func TestSeal(t *testing.T) {
	for _, b := range payloads() {
		for _, kind := range kinds {
			if got, want := sealed(t, kind, b), sector(kind, b); !bytes.Equal(got, want) {
				t.Errorf("Seal(%d, %v) = %v, want %v", kind, b, got, want)
			}
		}
	}
	for k := range 256 {
		for _, n := range []int{0, 57, 58} {
			b := mixed(n, uint32(k))
			if got, want := sealed(t, byte(k), b), sector(byte(k), b); !bytes.Equal(got, want) {
				t.Errorf("Seal(%d, %v) = %v, want %v", k, b, got, want)
			}
		}
	}
}

// P7.1 (Seal): more bytes than a sector has room for, some of them so many that their number's last byte is small again.
func TestSealOfLong(t *testing.T) {
	for _, n := range []int{59, 60, 61, 62, 63, 64, 65, 127, 128, 254, 255, 256, 257, 258, 313, 314, 315, 512, 65535, 65536, 65537, 65600, 1 << 20} {
		for _, b := range [][]byte{filled(n, 0), mixed(n, 1)} {
			for _, kind := range kinds {
				if s, e := frame.Seal(kind, b); e != api.ErrLong || s != nil {
					t.Errorf("Seal of %d bytes = %v, %d, want ErrLong", n, s, e)
				}
			}
		}
	}
}

// P7.2 (Open, Kind): what the definition calls a framed sector.
func TestOpen(t *testing.T) {
	for _, b := range payloads() {
		for _, kind := range kinds {
			opens(t, sector(kind, b), kind, b)
		}
	}
	for k := range 256 {
		for _, n := range []int{0, 57, 58} {
			b := mixed(n, uint32(k))
			opens(t, sector(byte(k), b), byte(k), b)
		}
	}
}

// P7.2 (Open): each kind but the one that was sealed is refused.
func TestOpenWithOtherKinds(t *testing.T) {
	for _, kind := range kinds {
		s := sealed(t, kind, []byte("ab"))
		for k := range 256 {
			if byte(k) != kind {
				closed(t, s, byte(k))
			}
		}
		opens(t, s, kind, []byte("ab"))
	}
}

// P7.2 (Open, Kind): zero bytes alone, and with the encoding of their checksum behind them.
func TestZeros(t *testing.T) {
	for n := range 130 {
		refused(t, "zero bytes", make([]byte, n))
	}
	opens(t, summed(make([]byte, 60)), 0, nil)
	for n := range 130 {
		if n != 60 {
			refused(t, "zero bytes and their checksum", summed(make([]byte, n)))
		}
	}
}

// P7.2 (Open, Kind): 64 bytes, neither fewer nor more, whatever lies behind them in memory.
func TestOtherSizes(t *testing.T) {
	refused(t, "nil", nil)
	for _, b := range payloads() {
		s := sector(7, b)
		wide := append(bytes.Clone(s), make([]byte, 100)...)
		for n := range len(wide) {
			if n != 64 {
				refused(t, "cut", wide[:n])
			}
		}
		opens(t, wide[:64], 7, b)
		refused(t, "a byte less in front", s[1:])
		refused(t, "a byte more in front", append([]byte{7}, s...))
		refused(t, "twice", append(bytes.Clone(s), s...))
		for n := range 130 {
			if n != 60 {
				refused(t, "another size, with its checksum", summed(wide[:n]))
			}
		}
	}
}

// P7.2 (Open, Kind): every length that a sector may state, with nothing and with something behind the payload.
func TestStatedLengths(t *testing.T) {
	for length := range 256 {
		for size := range 59 {
			kind := kinds[(length+size)%len(kinds)]
			s := summed(body(kind, byte(length), mixed(size, uint32(size))))
			switch {
			case length > 58:
				refused(t, "a length beyond 58", s)
			case length < size:
				refused(t, "bytes behind the payload", s)
			default:
				opens(t, s, kind, s[2:2+length])
			}
		}
	}
	opens(t, summed(body(7, 58, nil)), 7, make([]byte, 58))
	opens(t, summed(body(7, 58, mixed(58, 1))), 7, mixed(58, 1))
	for _, length := range []byte{59, 60, 64, 127, 128, 255} {
		refused(t, "a length beyond 58", summed(body(7, length, nil)))
		refused(t, "a length beyond 58", summed(body(length, length, mixed(58, 1))))
	}
}

// P7.2 (Open, Kind): one byte that is not zero, at each place behind the payload.
func TestByteBehindPayload(t *testing.T) {
	for length := range 58 {
		for at := 2 + length; at < 60; at++ {
			for _, x := range []byte{1, 128, 255} {
				s := body(7, byte(length), mixed(length, 3))
				s[at] = x
				refused(t, "a byte behind the payload", summed(s))
			}
		}
	}
}

// P7.2 (Open, Kind): the checksum is that of the first 60 bytes, all of them, its most significant byte first.
func TestOtherSums(t *testing.T) {
	for _, b := range payloads() {
		s := sector(7, b)
		c := s[60:]
		for _, sum := range [][]byte{
			{c[3], c[2], c[1], c[0]}, {c[0] ^ 255, c[1] ^ 255, c[2] ^ 255, c[3] ^ 255},
			{0, 0, 0, 0}, {255, 255, 255, 255},
			summed(s[:59])[59:], summed(s[1:60])[59:], summed(s[2:60])[58:], summed(s[:2+len(b)])[2+len(b):], summed(s)[64:],
		} {
			if !bytes.Equal(sum, c) {
				refused(t, "another checksum", append(bytes.Clone(s[:60]), sum...))
			}
		}
		refused(t, "the checksum in front", append(bytes.Clone(c), s[:60]...))
	}
}
