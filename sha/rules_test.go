package sha_test

import (
	"bytes"
	"math"
	"testing"

	"citadel/api"
	"citadel/sha"
)

// A call of sha that takes bytes, with all that it returns as bytes.
type call struct {
	name string
	do   func(b []byte) []byte
}

func tagged(t api.Tag) []byte { return t[:] }

func calls() []call {
	return []call{
		{"Eat", func(b []byte) []byte {
			s, errno := sha.Eat(sha.First(), b)
			return append(tagged(sha.Print(s)), byte(errno))
		}},
		{"Tail", func(b []byte) []byte { return sha.Tail(len(b)) }},
		{"Sum", func(b []byte) []byte { return tagged(sha.Sum(b)) }},
		{"Chain of one", func(b []byte) []byte { return tagged(sha.Chain(b)) }},
		{"Chain of three", func(b []byte) []byte { return tagged(sha.Chain(b, nil, b)) }},
	}
}

// P0.1: every call returns, whatever it is given.
func TestAllArguments(t *testing.T) {
	for _, b := range inputs() {
		for _, c := range calls() {
			c.do(b)
		}
	}
	for _, n := range []int{math.MinInt, math.MinInt + 1, -1, 0, 1, 1 << 61, math.MaxInt - 72, math.MaxInt - 8, math.MaxInt - 1, math.MaxInt} {
		sha.Tail(n)
	}
	for _, s := range states() {
		sha.Eat(s, nil)
		sha.Print(s)
		sha.Hex(sha.Print(s))
	}
	sha.Chain(nil...)
	sha.Chain([][]byte{}...)
}

// P0.3: calls that are refused change nothing that later ones answer, nor does any other.
func TestNothingKept(t *testing.T) {
	b := []byte("abc")
	for range 3 {
		sha.Eat(sha.First(), mixed(65, 1))
		sha.Eat(sha.State{}, mixed(64, 1))
		sha.Tail(-1)
		sha.Chain(mixed(9, 1), mixed(70, 2))
		sha.Sum(mixed(70, 1))
		if got := sha.Hex(sha.Sum(b)); got != "ba7816bf8f01cfea414140de5dae2223b00361a396177a9cb410ff61f20015ad" {
			t.Errorf("Sum = %s", got)
		}
		s := sha.First()
		s[0] = 0
		if got := sha.First()[0]; got != 0x6a09e667 {
			t.Errorf("First()[0] = %08x", got)
		}
	}
}

// P0.4: what is passed is not changed, nor is what lies beyond its length, which counts for nothing.
func TestArgumentsUnchanged(t *testing.T) {
	for _, n := range []int{0, 1, 55, 56, 63, 64, 65, 119, 120, 128, 130} {
		b := mixed(n, 1)
		for _, c := range calls() {
			whole := filled(300, 7)
			part := whole[4 : 4+n]
			copy(part, b)
			passed := bytes.Clone(whole)
			if !bytes.Equal(c.do(part), c.do(b[:n:n])) {
				t.Errorf("%s of %d bytes depends on what lies beyond them", c.name, n)
			}
			if !bytes.Equal(whole, passed) {
				t.Errorf("%s of %d bytes changed what was passed", c.name, n)
			}
		}
	}
}

// P0.4: a chain's list is not changed either, nor what lies beyond its length.
func TestListUnchanged(t *testing.T) {
	a, b, c := []byte("abc"), []byte("d"), []byte("e")
	l := [][]byte{a, nil, b, c}
	sha.Chain(l[:3]...)
	want := [][]byte{[]byte("abc"), nil, []byte("d"), []byte("e")}
	for i := range l {
		if !bytes.Equal(l[i], want[i]) {
			t.Errorf("Chain changed its list: %q", l)
		}
	}
}

// P0.4: what is returned shares no memory with what was passed, nor with another answer.
func TestAnswersAreNew(t *testing.T) {
	for _, n := range []int{0, 1, 55, 56, 64, 65} {
		b := mixed(n, 1)
		for _, c := range calls() {
			first, second := c.do(b), c.do(b)
			want := bytes.Clone(second)
			first = first[:cap(first)]
			clear(first)
			if !bytes.Equal(b, mixed(n, 1)) || !bytes.Equal(second, want) || !bytes.Equal(c.do(b), want) {
				t.Errorf("%s of %d bytes: an answer is not new memory", c.name, n)
			}
			spoiled := bytes.Clone(b)
			third := c.do(spoiled)
			clear(spoiled)
			if !bytes.Equal(third, want) {
				t.Errorf("%s of %d bytes keeps what was passed", c.name, n)
			}
		}
	}
}

// P0.4: a state that is passed is a value: it stays as it is.
func TestStateUnchanged(t *testing.T) {
	for _, s := range states() {
		before := s
		sha.Eat(s, mixed(64, 1))
		sha.Print(s)
		if s != before {
			t.Errorf("a state that was passed is now %08x, was %08x", s, before)
		}
	}
}

// P0.4: nil and empty slices are equivalent.
func TestNilIsEmpty(t *testing.T) {
	for _, c := range calls() {
		if !bytes.Equal(c.do(nil), c.do([]byte{})) {
			t.Errorf("%s: nil and empty differ", c.name)
		}
	}
	if sha.Chain(nil...) != sha.Chain([][]byte{}...) {
		t.Error("Chain: no list and an empty one differ")
	}
	if sha.Chain(nil, []byte("a"), nil) != sha.Chain([]byte{}, []byte("a"), []byte{}) {
		t.Error("Chain of three: nil and empty differ")
	}
}
