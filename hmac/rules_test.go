package hmac_test

import (
	"bytes"
	"encoding/hex"
	"math"
	"testing"

	"citadel/api"
	"citadel/hmac"
)

// A call of hmac that takes a key and bytes, with all that it returns as bytes.
type call struct {
	name string
	do   func(key, b []byte) []byte
}

func tagged(t api.Tag) []byte { return t[:] }

func calls() []call {
	return []call{
		{"Short", func(key, b []byte) []byte { return hmac.Short(key) }},
		{"Sum", func(key, b []byte) []byte { return tagged(hmac.Sum(key, b)) }},
		{"Derive", func(key, b []byte) []byte { return hmac.Derive(key, "x", len(b), 2) }},
		{"Derive for no label", func(key, b []byte) []byte { return hmac.Derive(key, "") }},
		{"Seal", hmac.Seal},
		{"Open", func(key, b []byte) []byte { return opened(hmac.Open(key, b)) }},
		{"Open of sealed", func(key, b []byte) []byte { return opened(hmac.Open(key, hmac.Seal(key, b))) }},
	}
}

// opened ends what Open returned with its bool, in memory that is Open's where there is room.
func opened(b []byte, ok bool) []byte {
	if ok {
		return append(b, 1)
	}
	return append(b, 0)
}

// pairs: keys and bytes at the edges.
func pairs() [][2][]byte {
	var l [][2][]byte
	for _, key := range keys() {
		for _, b := range messages() {
			l = append(l, [2][]byte{key, b})
		}
	}
	return l
}

// P0.1: every call returns, whatever it is given.
func TestAllArguments(t *testing.T) {
	for _, p := range pairs() {
		for _, c := range calls() {
			c.do(p[0], p[1])
		}
	}
	for n := range 100 {
		hmac.Open(nil, mixed(n, 1))
	}
	hmac.Derive(nil, "", nil...)
	hmac.Derive(nil, "", []int{}...)
	hmac.Derive(nil, "\x00", math.MinInt, math.MaxInt, -1, 0)
	hmac.Derive(nil, string(filled(70000, 'a')), make([]int, 10000)...)
}

// P0.3: calls that are refused change nothing that later ones answer, nor does any other.
func TestNothingKept(t *testing.T) {
	for range 3 {
		for _, c := range calls() {
			c.do(mixed(65, 1), mixed(70, 2))
		}
		hmac.Open([]byte("Jefe"), mixed(31, 1))
		hmac.Open([]byte("Jefe"), mixed(33, 1))
		tag := hmac.Sum([]byte("Jefe"), []byte("what do ya want for nothing?"))
		if got := hex.EncodeToString(tag[:]); got != "5bdcc146bf60754e6a042426089575c75a003f089d2739839dec58b964ec3843" {
			t.Errorf("Sum = %s", got)
		}
	}
}

// P0.4: what is passed is not changed, nor is what lies beyond its length, which counts for nothing.
func TestArgumentsUnchanged(t *testing.T) {
	for _, n := range []int{0, 1, 31, 32, 33, 63, 64, 65, 130} {
		for _, m := range []int{0, 1, 31, 32, 33, 64, 100} {
			key, b := mixed(n, 1), mixed(m, 2)
			for _, c := range calls() {
				wholeKey, whole := filled(300, 7), filled(300, 9)
				partOfKey, part := wholeKey[4:4+n], whole[4:4+m]
				copy(partOfKey, key)
				copy(part, b)
				passedKey, passed := bytes.Clone(wholeKey), bytes.Clone(whole)
				if !bytes.Equal(c.do(partOfKey, part), c.do(key[:n:n], b[:m:m])) {
					t.Errorf("%s of %d and %d bytes depends on what lies beyond them", c.name, n, m)
				}
				if !bytes.Equal(wholeKey, passedKey) || !bytes.Equal(whole, passed) {
					t.Errorf("%s of %d and %d bytes changed what was passed", c.name, n, m)
				}
			}
		}
	}
}

// P0.4: a sealed message that is opened is not changed, nor what lies beyond it, and what Open returns is not a part of it.
func TestSealedUnchanged(t *testing.T) {
	key := []byte("k")
	for _, n := range []int{0, 1, 31, 32, 33, 64, 100} {
		whole := append(hmac.Seal(key, mixed(n, 1)), filled(20, 7)...)
		sealed := whole[:n+32]
		passed := bytes.Clone(whole)
		b, ok := hmac.Open(key, sealed)
		if !ok || !bytes.Equal(b, mixed(n, 1)) {
			t.Errorf("%d bytes: opened %x, %v", n, b, ok)
		}
		clear(b[:cap(b)])
		if !bytes.Equal(whole, passed) {
			t.Errorf("%d bytes: Open's answer is a part of what was passed", n)
		}
		b, _ = hmac.Open(key, sealed)
		clear(whole)
		if !bytes.Equal(b, mixed(n, 1)) {
			t.Errorf("%d bytes: Open's answer changes with what was passed", n)
		}
	}
}

// P0.4: Derive's numbers are not changed, nor what lies beyond their length, which counts for nothing.
func TestNumbersUnchanged(t *testing.T) {
	l := []int{1, -2, 3, 4}
	got, want := hmac.Derive(nil, "x", l[:2]...), hmac.Derive(nil, "x", 1, -2)
	if !bytes.Equal(got, want) {
		t.Errorf("Derive = %x, want %x", got, want)
	}
	for i, x := range []int{1, -2, 3, 4} {
		if l[i] != x {
			t.Errorf("Derive changed its numbers: %d", l)
		}
	}
}

// P0.4: what is returned shares no memory with what was passed, nor with another answer.
func TestAnswersAreNew(t *testing.T) {
	for _, n := range []int{0, 1, 31, 32, 33, 63, 64, 65} {
		for _, m := range []int{0, 1, 31, 32, 33, 65} {
			key, b := mixed(n, 1), mixed(m, 2)
			for _, c := range calls() {
				first, second := c.do(key, b), c.do(key, b)
				want := bytes.Clone(second)
				clear(first[:cap(first)])
				if !bytes.Equal(key, mixed(n, 1)) || !bytes.Equal(b, mixed(m, 2)) || !bytes.Equal(second, want) || !bytes.Equal(c.do(key, b), want) {
					t.Errorf("%s of %d and %d bytes: an answer is not new memory", c.name, n, m)
				}
				spoiledKey, spoiled := bytes.Clone(key), bytes.Clone(b)
				third := c.do(spoiledKey, spoiled)
				clear(spoiledKey)
				clear(spoiled)
				if !bytes.Equal(third, want) {
					t.Errorf("%s of %d and %d bytes keeps what was passed", c.name, n, m)
				}
			}
		}
	}
}

// P0.4: a key and bytes that share memory are taken as they are.
func TestSharedArguments(t *testing.T) {
	b := mixed(70, 1)
	if got, want := hmac.Sum(b, b), library(b, b); got != want {
		t.Errorf("Sum = %x, want %x", got, want)
	}
	tag := library(b[:20], b[10:60])
	if got := hmac.Seal(b[:20], b[10:60]); !bytes.Equal(got, append(bytes.Clone(b[10:60]), tag[:]...)) {
		t.Errorf("Seal = %x", got)
	}
	if !bytes.Equal(b, mixed(70, 1)) {
		t.Error("what was passed has changed")
	}
}

// P0.4: nil and empty slices are equivalent.
func TestNilIsEmpty(t *testing.T) {
	for _, c := range calls() {
		want := c.do(nil, nil)
		for _, p := range [][2][]byte{{nil, {}}, {{}, nil}, {{}, {}}} {
			if !bytes.Equal(c.do(p[0], p[1]), want) {
				t.Errorf("%s: nil and empty differ", c.name)
			}
		}
	}
	if !bytes.Equal(hmac.Derive(nil, "x", nil...), hmac.Derive(nil, "x", []int{}...)) {
		t.Error("Derive: no numbers and an empty list of them differ")
	}
}
