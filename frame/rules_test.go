package frame_test

import (
	"bytes"
	"testing"

	"citadel/api"
	"citadel/frame"
)

// A call of frame, with what it returns: bytes and a number.
type call struct {
	name string
	do   func(b []byte) ([]byte, int)
}

func calls() []call {
	l := []call{{"Kind", func(b []byte) ([]byte, int) {
		k, ok := frame.Kind(b)
		if !ok {
			return nil, -1 - int(k)
		}
		return nil, int(k)
	}}}
	for _, kind := range []byte{0, 7, 255} {
		l = append(l, call{"Seal", func(b []byte) ([]byte, int) {
			s, e := frame.Seal(kind, b)
			return s, int(e)
		}}, call{"Open", func(b []byte) ([]byte, int) {
			p, e := frame.Open(kind, b)
			return p, int(e)
		}})
	}
	return l
}

func same(c call, a, b []byte) bool {
	x, n := c.do(a)
	y, m := c.do(b)
	return bytes.Equal(x, y) && n == m
}

// inputs: payloads, sectors and neither.
func inputs() [][]byte {
	l := [][]byte{{}, {1}, mixed(57, 1), mixed(58, 2), mixed(59, 3), make([]byte, 64), mixed(64, 4), mixed(63, 5), mixed(65, 6)}
	for _, kind := range []byte{0, 7, 255} {
		for _, n := range []int{0, 1, 57, 58} {
			l = append(l, sector(kind, mixed(n, 7)))
		}
	}
	return append(l, summed(body(7, 59, nil)), summed(body(7, 255, mixed(58, 1))), summed(body(7, 1, mixed(2, 1))))
}

// P0.1, P0.2: every call returns, whatever it is given; beside an error or a false stands the zero value.
func TestAllArguments(t *testing.T) {
	l := append(inputs(), nil)
	for n := range 140 {
		l = append(l, filled(n, 0), filled(n, 255), mixed(n, uint32(n)))
	}
	for k := range 256 {
		for _, b := range append(l, mixed(1<<16, 1)) {
			if s, e := frame.Seal(byte(k), b); (e != api.OK || len(s) != 64) && (e != api.ErrLong || s != nil) {
				t.Fatalf("Seal(%d, %d bytes) = %v, %d", k, len(b), s, e)
			}
			if p, e := frame.Open(byte(k), b); e != api.OK && (e != api.ErrFrame || p != nil) {
				t.Fatalf("Open(%d, %v) = %v, %d", k, b, p, e)
			}
			if kind, ok := frame.Kind(b); !ok && kind != 0 {
				t.Fatalf("Kind(%v) = %d, false", b, kind)
			}
		}
	}
}

// P0.3: calls that are refused change nothing that later ones answer, nor does any other.
func TestNothingKept(t *testing.T) {
	s := sector(7, []byte("ab"))
	for range 3 {
		for _, b := range inputs() {
			for _, c := range calls() {
				c.do(b)
			}
			opens(t, s, 7, []byte("ab"))
			if got := sealed(t, 7, []byte("ab")); !bytes.Equal(got, s) {
				t.Errorf("Seal = %v", got)
			}
		}
	}
}

// within returns longer memory, and the part of it that has the bytes of b.
func within(b []byte) (whole, part []byte) {
	whole = filled(160, 9)
	part = whole[4 : 4+len(b)]
	copy(part, b)
	return whole, part
}

// P0.4: what is passed is not changed, nor is what lies beyond its length, which counts for nothing.
func TestArgumentsUnchanged(t *testing.T) {
	for _, b := range inputs() {
		for _, c := range calls() {
			whole, part := within(b)
			want := bytes.Clone(whole)
			if !same(c, part, b) {
				t.Errorf("%s(%v) depends on what lies beyond it", c.name, b)
			}
			if !bytes.Equal(whole, want) {
				t.Errorf("%s(%v) changed what was passed: %v", c.name, b, whole)
			}
		}
	}
}

// P0.4: what is returned shares no memory with what was passed, nor with another answer.
func TestAnswersAreNew(t *testing.T) {
	for _, b := range inputs() {
		for _, c := range calls() {
			whole, part := within(b)
			passed := bytes.Clone(whole)
			first, _ := c.do(part)
			second, _ := c.do(part)
			want := bytes.Clone(first)
			spoil(first)
			if !bytes.Equal(whole, passed) || !bytes.Equal(second, want) {
				t.Errorf("%s(%v): an answer is not new memory", c.name, b)
			}
			spoil(whole)
			if !bytes.Equal(second, want) {
				t.Errorf("%s(%v) keeps what was passed", c.name, b)
			}
		}
	}
}

// spoil writes over a slice and what lies beyond its length.
func spoil(b []byte) {
	b = b[:cap(b)]
	for i := range b {
		b[i] = 99
	}
}

// P0.4: nil and empty slices are equivalent.
func TestNilIsEmpty(t *testing.T) {
	for _, c := range calls() {
		if !same(c, nil, []byte{}) {
			t.Errorf("%s: nil and empty differ", c.name)
		}
	}
}
