package crc_test

import (
	"bytes"
	"hash/crc32"
	"math"
	"testing"

	"citadel/crc"
)

func filled(n int, x byte) []byte { return bytes.Repeat([]byte{x}, n) }

// mixed returns n bytes without a plain pattern, others for another start.
func mixed(n int, start uint32) []byte {
	b := make([]byte, n)
	x := start*2654435761 + 12345
	for i := range b {
		x = x*1664525 + 1013904223
		b[i] = byte(x >> 24)
	}
	return b
}

// inputs: ordinary ones and edges.
func inputs() [][]byte {
	l := [][]byte{nil, {}, []byte("123456789")}
	for x := range 256 {
		l = append(l, []byte{byte(x)})
	}
	for n := range 70 {
		l = append(l, filled(n, 0), filled(n, 255), mixed(n, uint32(n)))
	}
	return append(l, mixed(4096, 1), mixed(65536, 2), mixed(65537, 3))
}

// someSums: values of c, most of which are the checksum of nothing that is known here.
func someSums() []uint32 {
	l := []uint32{0, 1, 0xcbf43926, 0xdeadbeef, 0xedb88320, math.MaxInt32, 1 << 31, math.MaxUint32 - 1, math.MaxUint32}
	for i := range 32 {
		l = append(l, 1<<i, ^uint32(1<<i))
	}
	return l
}

// continued is the definition of the chapter, bit by bit.
func continued(c uint32, b []byte) uint32 {
	c ^= 0xffffffff
	for _, x := range b {
		c ^= uint32(x)
		for i := 0; i < 8; i++ {
			if c%2 == 1 {
				c = c/2 ^ 0xedb88320
			} else {
				c = c / 2
			}
		}
	}
	return c ^ 0xffffffff
}

// P2.1 (Sum)
func TestSum(t *testing.T) {
	for _, c := range []struct {
		text string
		want uint32
	}{
		{"", 0},
		{"123456789", 0xcbf43926},
		{"a", 0xe8b7be43},
		{"abc", 0x352441c2},
		{"\x00", 0xd202ef8d},
		{"\x00\x00\x00\x00", 0x2144df1c},
		{"\xff\xff\xff\xff", 0xffffffff},
		{"The quick brown fox jumps over the lazy dog", 0x414fa339},
	} {
		if got := crc.Sum([]byte(c.text)); got != c.want {
			t.Errorf("Sum(%q) = %08x, want %08x", c.text, got, c.want)
		}
	}
	for _, b := range inputs() {
		got := crc.Sum(b)
		if want := continued(0, b); got != want {
			t.Errorf("Sum of %d bytes = %08x, want %08x", len(b), got, want)
		}
		if want := crc32.ChecksumIEEE(b); got != want {
			t.Errorf("Sum of %d bytes = %08x, want %08x", len(b), got, want)
		}
	}
}

// P2.1 (Add): of a checksum.
func TestAddToSum(t *testing.T) {
	b := []byte("123456789")
	for i := range len(b) + 1 {
		if got := crc.Add(crc.Sum(b[:i]), b[i:]); got != 0xcbf43926 {
			t.Errorf("Add of Sum(%q) and %q = %08x", b[:i], b[i:], got)
		}
	}
	if got := crc.Add(0, b); got != 0xcbf43926 {
		t.Errorf("Add(0, %q) = %08x", b, got)
	}
}

// P2.1 (Add): every c is accepted.
func TestAddToAny(t *testing.T) {
	for _, c := range someSums() {
		for _, b := range [][]byte{nil, {}} {
			if got := crc.Add(c, b); got != c {
				t.Errorf("Add(%08x, no bytes) = %08x", c, got)
			}
		}
		for n := range 20 {
			b := mixed(n, c)
			if got, want := crc.Add(c, b), continued(c, b); got != want {
				t.Errorf("Add(%08x, %v) = %08x, want %08x", c, b, got, want)
			}
		}
		for x := range 256 {
			b := []byte{byte(x)}
			if got, want := crc.Add(c, b), continued(c, b); got != want {
				t.Errorf("Add(%08x, %v) = %08x, want %08x", c, b, got, want)
			}
		}
	}
}

// P2.2 (Put)
func TestPut(t *testing.T) {
	for _, c := range []struct {
		text string
		want []byte
	}{
		{"", []byte{0, 0, 0, 0}},
		{"123456789", []byte("123456789\xcb\xf4\x39\x26")},
		{"a", []byte{'a', 0xe8, 0xb7, 0xbe, 0x43}},
	} {
		if got := crc.Put([]byte(c.text)); !bytes.Equal(got, c.want) {
			t.Errorf("Put(%q) = %x, want %x", c.text, got, c.want)
		}
	}
	for _, b := range inputs() {
		want := append(bytes.Clone(b), sumBytes(string(b))...)
		if got := crc.Put(b); !bytes.Equal(got, want) {
			t.Errorf("Put of %d bytes ends otherwise, or begins so", len(b))
		}
	}
}

func sumBytes(text string) []byte {
	c := crc32.ChecksumIEEE([]byte(text))
	return []byte{byte(c >> 24), byte(c >> 16), byte(c >> 8), byte(c)}
}

// P2.2 (Put): the encoding keeps its leading zero bytes.
func TestPutOfSmallSums(t *testing.T) {
	found := 0
	for i := range 1 << 12 {
		b := []byte{byte(i >> 8), byte(i)}
		if crc.Sum(b)>>24 != 0 {
			continue
		}
		found++
		if got := crc.Put(b); len(got) != 6 || got[2] != 0 {
			t.Errorf("Put(%v) = %v", b, got)
		}
	}
	if found == 0 {
		t.Error("no sum that begins with a zero byte was tried")
	}
}

// P2.2 (Check): what Put returns is intact.
func TestCheckOfPut(t *testing.T) {
	for _, b := range inputs() {
		if got, ok := crc.Check(crc.Put(b)); !ok || !bytes.Equal(got, b) {
			t.Errorf("Check(Put of %d bytes) = %d bytes, %v", len(b), len(got), ok)
		}
	}
}

// P2.2 (Check): the shortest slices.
func TestCheckOfShort(t *testing.T) {
	for _, b := range [][]byte{nil, {}, {0}, {0, 0}, {0, 0, 0}, filled(3, 255), mixed(3, 1)} {
		if got, ok := crc.Check(b); ok || got != nil {
			t.Errorf("Check(%v) = %v, %v", b, got, ok)
		}
		// The bytes beyond the length must not be taken for the rest of a sum.
		whole := append(bytes.Clone(b), make([]byte, 8)...)
		if got, ok := crc.Check(whole[:len(b)]); ok || got != nil {
			t.Errorf("Check(%v), with zero bytes behind = %v, %v", b, got, ok)
		}
	}
	if got, ok := crc.Check(make([]byte, 4)); !ok || len(got) != 0 {
		t.Errorf("Check of four zero bytes = %v, %v", got, ok)
	}
	for i := range 32 {
		b := make([]byte, 4)
		b[i/8] = 1 << (i % 8)
		if got, ok := crc.Check(b); ok || got != nil {
			t.Errorf("Check(%v) = %v, %v", b, got, ok)
		}
	}
	// Five zero bytes: the sum of one zero byte is not 0.
	if got, ok := crc.Check(make([]byte, 5)); ok || got != nil {
		t.Errorf("Check of five zero bytes = %v, %v", got, ok)
	}
}

// P2.2 (Check): a sum in another order of bytes, or none at all, is refused.
func TestCheckOfOtherSums(t *testing.T) {
	for _, b := range [][]byte{
		[]byte("123456789"),
		[]byte("123456789\x26\x39\xf4\xcb"),
		[]byte("\xcb\xf4\x39\x26123456789"),
		[]byte("123456789\xcb\xf4\x39"),
		[]byte("123456789\xcb\xf4\x39\x26\x00"),
		[]byte("\x00123456789\xcb\xf4\x39\x26"),
		[]byte("123456789\x34\x0b\xc6\xd9"),
		[]byte("123456789\x00\x00\x00\x00"),
		[]byte("123456789\xff\xff\xff\xff"),
	} {
		if got, ok := crc.Check(b); ok || got != nil {
			t.Errorf("Check(%q) = %v, %v", b, got, ok)
		}
	}
}

// P2.2 (Check): one byte is turned, in the bytes or in the sum.
func TestCheckOfTurned(t *testing.T) {
	for _, b := range [][]byte{nil, {0}, []byte("123456789"), mixed(60, 1)} {
		put := crc.Put(b)
		for i := range put {
			for x := 1; x < 256; x++ {
				turned := bytes.Clone(put)
				turned[i] ^= byte(x)
				if got, ok := crc.Check(turned); ok || got != nil {
					t.Fatalf("Check(%x) = %x, %v: byte %d was turned", turned, got, ok, i)
				}
			}
		}
	}
}
