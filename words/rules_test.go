package words_test

import (
	"bytes"
	"math"
	"testing"

	"citadel/words"
)

// A call of words that takes slices, with what it returns as a list of slices.
type call struct {
	name string
	do   func(b []byte, n int) [][]byte
}

func calls() []call {
	return []call{
		{"Number", func(b []byte, n int) [][]byte { words.Number(b); return nil }},
		{"Load32", func(b []byte, n int) [][]byte { words.Load32(b, n); return nil }},
		{"Load64", func(b []byte, n int) [][]byte { words.Load64(b, n); return nil }},
		{"Cat of one", func(b []byte, n int) [][]byte { return [][]byte{words.Cat(b)} }},
		{"Cat of three", func(b []byte, n int) [][]byte { return [][]byte{words.Cat(b, nil, b)} }},
		{"Cut", words.Cut},
		{"Padded", func(b []byte, n int) [][]byte { return [][]byte{words.Padded(b, n)} }},
		{"Same", func(b []byte, n int) [][]byte { words.Same(b, b); return nil }},
		{"Ahead", func(b []byte, n int) [][]byte { words.Ahead(b, b); return nil }},
		{"Row", func(b []byte, n int) [][]byte { return [][]byte{words.Row(5, n)} }},
		{"Put32", func(b []byte, n int) [][]byte { return [][]byte{words.Put32(5)} }},
		{"Put64", func(b []byte, n int) [][]byte { return [][]byte{words.Put64(5)} }},
	}
}

func edges() []int {
	return []int{math.MinInt, math.MinInt + 1, -65536, -9, -8, -4, -1, 0, 1, 2, 3, 4, 5, 7, 8, 9, 16, 64, 65535, 65536, 65537, math.MaxInt - 8, math.MaxInt - 1, math.MaxInt}
}

func copies(l [][]byte) [][]byte {
	var out [][]byte
	for _, b := range l {
		out = append(out, bytes.Clone(b))
	}
	return out
}

// P0.1: every call returns, whatever it is given; P0.2: beside a false stands the zero value.
func TestAllArguments(t *testing.T) {
	for _, b := range [][]byte{nil, {}, {1}, filled(7, 1), filled(8, 1), filled(9, 1), filled(64, 1)} {
		for _, n := range edges() {
			for _, c := range calls() {
				c.do(b, n)
			}
			if x, ok := words.Number(b); !ok && x != 0 {
				t.Errorf("Number(%v) = %d, false", b, x)
			}
			if x, ok := words.Load32(b, n); !ok && x != 0 {
				t.Errorf("Load32(%v, %d) = %d, false", b, n, x)
			}
			if x, ok := words.Load64(b, n); !ok && x != 0 {
				t.Errorf("Load64(%v, %d) = %d, false", b, n, x)
			}
		}
	}
}

// P0.3: calls that are refused change nothing that later ones answer.
func TestRefusedCalls(t *testing.T) {
	b := []byte{1, 2, 3, 4, 5, 6, 7, 8, 9}
	words.Number(b)
	words.Load32(b, 6)
	words.Load64(b, -1)
	words.Row(1, 9)
	words.Cut(b, 0)
	if x, ok := words.Number(b[:8]); x != 0x0102030405060708 || !ok {
		t.Errorf("Number = %x, %v", x, ok)
	}
	if x, ok := words.Load32(b, 5); x != 0x06070809 || !ok {
		t.Errorf("Load32 = %x, %v", x, ok)
	}
	if got := words.Row(258, 3); !bytes.Equal(got, []byte{0, 1, 2}) {
		t.Errorf("Row = %v", got)
	}
}

// P0.4: what is passed is not changed, nor is what lies beyond its length.
func TestArgumentsUnchanged(t *testing.T) {
	for _, c := range calls() {
		for _, size := range []int{0, 1, 5, 8, 9} {
			for _, n := range edges() {
				whole := filled(24, 7)
				c.do(whole[4:4+size], n)
				if !bytes.Equal(whole, filled(24, 7)) {
					t.Fatalf("%s of %d bytes, %d: changed what was passed: %v", c.name, size, n, whole)
				}
			}
		}
	}
	l := [][]byte{{1}, nil, {2}, {3}}
	words.Cat(l[:3]...)
	if !samePieces(l, [][]byte{{1}, nil, {2}, {3}}) {
		t.Errorf("Cat changed its list: %v", l)
	}
}

// P0.4: what is returned shares no memory with what was passed, with another answer, or with another of its slices.
func TestAnswersAreNew(t *testing.T) {
	for _, c := range calls() {
		for _, n := range []int{1, 2, 3, 8, 9, 30} {
			whole := filled(24, 7)
			first := c.do(whole[4:13], n)
			second := c.do(whole[4:13], n)
			want := copies(first)
			clear(whole)
			if !samePieces(first, want) {
				t.Errorf("%s, %d: keeps what was passed", c.name, n)
			}
			whole = filled(24, 7)
			for i := range first {
				spoil(first[i])
				for j := range first {
					if j > i && !bytes.Equal(first[j], want[j]) {
						t.Errorf("%s, %d: slices %d and %d of an answer share memory", c.name, n, i, j)
					}
				}
			}
			clear(first[:cap(first)])
			if !bytes.Equal(whole, filled(24, 7)) || !samePieces(second, want) {
				t.Errorf("%s, %d: an answer is not new memory", c.name, n)
			}
		}
	}
}

// spoil writes over a slice and what lies beyond its length.
func spoil(b []byte) {
	b = b[:cap(b)]
	for i := range b {
		b[i] = 99
	}
}

// P0.4: nil and empty slices are equivalent.
func TestNilIsEmpty(t *testing.T) {
	for _, c := range calls() {
		for _, n := range edges() {
			if a, b := c.do(nil, n), c.do([]byte{}, n); !samePieces(a, b) {
				t.Errorf("%s, %d: nil and empty differ: %v, %v", c.name, n, a, b)
			}
		}
	}
	for _, b := range [][]byte{nil, {}, {0}, {1, 2}} {
		if words.Same(nil, b) != words.Same([]byte{}, b) || words.Ahead(nil, b) != words.Ahead([]byte{}, b) || words.Ahead(b, nil) != words.Ahead(b, []byte{}) {
			t.Errorf("nil and empty differ beside %v", b)
		}
	}
	if x, ok := words.Number([]byte{}); x != 0 || ok {
		t.Errorf("Number of no bytes = %d, %v", x, ok)
	}
}
