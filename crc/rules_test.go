package crc_test

import (
	"bytes"
	"testing"

	"citadel/crc"
)

// A call of crc, with what it returns: a number, bytes and whether it was refused.
type call struct {
	name string
	do   func(b []byte) (uint32, []byte, bool)
}

func calls() []call {
	return []call{
		{"Sum", func(b []byte) (uint32, []byte, bool) { return crc.Sum(b), nil, true }},
		{"Add", func(b []byte) (uint32, []byte, bool) { return crc.Add(0xdeadbeef, b), nil, true }},
		{"Put", func(b []byte) (uint32, []byte, bool) { return 0, crc.Put(b), true }},
		{"Check", func(b []byte) (uint32, []byte, bool) {
			got, ok := crc.Check(b)
			return 0, got, ok
		}},
	}
}

func same(c call, a, b []byte) bool {
	x, l, ok := c.do(a)
	y, m, fine := c.do(b)
	return x == y && bytes.Equal(l, m) && ok == fine
}

// P0.1: every call returns, whatever it is given; P0.2: beside a false stands nil.
func TestAllArguments(t *testing.T) {
	for _, b := range append(inputs(), crc.Put(nil), crc.Put(mixed(9, 1))) {
		for _, c := range calls() {
			if _, got, ok := c.do(b); !ok && got != nil {
				t.Errorf("%s of %d bytes = %v, false", c.name, len(b), got)
			}
		}
	}
}

// P0.3: calls that are refused change nothing that later ones answer, nor does any other.
func TestNothingKept(t *testing.T) {
	b := []byte("123456789")
	for range 3 {
		crc.Check(b)
		crc.Check(nil)
		crc.Add(1, b)
		crc.Put(mixed(30, 1))
		if got := crc.Sum(b); got != 0xcbf43926 {
			t.Errorf("Sum = %08x", got)
		}
		if got, ok := crc.Check(crc.Put(b)); !ok || !bytes.Equal(got, b) {
			t.Errorf("Check = %q, %v", got, ok)
		}
	}
}

// P0.4: what is passed is not changed, nor is what lies beyond its length, which counts for nothing.
func TestArgumentsUnchanged(t *testing.T) {
	for _, b := range [][]byte{{}, {1}, mixed(9, 1), crc.Put(nil), crc.Put(mixed(9, 1))} {
		for _, c := range calls() {
			whole := filled(32, 7)
			part := whole[4 : 4+len(b)]
			copy(part, b)
			want := bytes.Clone(whole)
			if !same(c, part, b) {
				t.Errorf("%s(%v) depends on what lies beyond it", c.name, b)
			}
			if !bytes.Equal(whole, want) {
				t.Errorf("%s(%v) changed what was passed: %v", c.name, b, whole)
			}
		}
	}
}

// P0.4: what is returned shares no memory with what was passed, nor with another answer.
func TestAnswersAreNew(t *testing.T) {
	for _, b := range [][]byte{{1}, mixed(9, 1), crc.Put(nil), crc.Put(mixed(9, 1))} {
		for _, c := range calls() {
			whole := filled(32, 7)
			part := whole[4 : 4+len(b)]
			copy(part, b)
			passed := bytes.Clone(whole)
			_, first, _ := c.do(part)
			_, second, _ := c.do(part)
			want := bytes.Clone(first)
			spoil(first)
			if !bytes.Equal(whole, passed) || !bytes.Equal(second, want) {
				t.Errorf("%s(%v): an answer is not new memory", c.name, b)
			}
			spoil(whole)
			if !bytes.Equal(second, want) {
				t.Errorf("%s(%v) keeps what was passed", c.name, b)
			}
		}
	}
}

// spoil writes over a slice and what lies beyond its length.
func spoil(b []byte) {
	b = b[:cap(b)]
	for i := range b {
		b[i] = 99
	}
}

// P0.4: nil and empty slices are equivalent.
func TestNilIsEmpty(t *testing.T) {
	for _, c := range calls() {
		if !same(c, nil, []byte{}) {
			t.Errorf("%s: nil and empty differ", c.name)
		}
	}
}
