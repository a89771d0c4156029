package sha_test

import (
	"bytes"
	"math"
	"testing"

	"citadel/api"
	"citadel/sha"
)

// P3.5 (block by block)
func TestBlockByBlock(t *testing.T) {
	for _, b := range inputs() {
		all := append(bytes.Clone(b), sha.Tail(len(b))...)
		s := sha.First()
		for ; len(all) > 0; all = all[64:] {
			var errno api.Errno
			if s, errno = sha.Eat(s, all[:64]); errno != api.OK {
				t.Fatalf("Eat: %d", errno)
			}
		}
		if got, want := sha.Print(s), sha.Sum(b); got != want {
			t.Errorf("%d bytes, block by block: %x, want %x", len(b), got, want)
		}
	}
}

// P3.6 (padding): whole blocks, one or two more than those of the bytes alone.
func TestPaddingFills(t *testing.T) {
	for n := range 4096 {
		size := n + len(sha.Tail(n))
		if size%64 != 0 {
			t.Errorf("%d bytes and their padding are %d", n, size)
		}
		want := 1
		if n%64 > 55 { // then the mark and the count find no room
			want = 2
		}
		if more := size/64 - n/64; more != want {
			t.Errorf("%d bytes: the padding makes %d more blocks, want %d", n, more, want)
		}
	}
}

// P3.6 (padding): different lengths have different ones.
func TestPaddingsDiffer(t *testing.T) {
	seen := map[string]int{}
	try := func(n int) {
		text := string(sha.Tail(n))
		if m, there := seen[text]; there && m != n {
			t.Errorf("Tail(%d) is Tail(%d)", n, m)
		}
		seen[text] = n
	}
	for n := range 4096 {
		try(n)
		try(math.MaxInt32 - n)
	}
	for shift := range 31 {
		for less := range 3 {
			try(max(0, 1<<shift-less))
		}
	}
}

// P3.7 (chaining): what is appended is digested behind the chain so far.
func TestChainAppended(t *testing.T) {
	for _, l := range lists()[1:] { // a first argument has nothing ahead of it
		for _, b := range [][]byte{nil, {0}, []byte("d"), mixed(23, 1), mixed(24, 1), mixed(32, 1), mixed(64, 1)} {
			so := sha.Chain(l...)
			if got, want := sha.Chain(append(l[:len(l):len(l)], b)...), sha.Sum(append(so[:], b...)); got != want {
				t.Errorf("Chain(%x, %x) = %x, want %x", l, b, got, want)
			}
		}
	}
}

// P3.7 (chaining): a list is replaced by one argument that has the same chain: nothing behind it changes.
func TestChainReplaced(t *testing.T) {
	for _, l := range lists() {
		if len(l) < 2 {
			continue
		}
		last := len(l) - 1
		ahead := sha.Chain(l[:last]...)
		one := append(ahead[:], l[last]...)
		if sha.Chain(one) != sha.Chain(l...) {
			t.Fatalf("Chain(%x) is not Chain(%x)", one, l)
		}
		for _, rest := range [][][]byte{{nil}, {[]byte("d")}, {mixed(30, 1), nil, mixed(40, 2)}} {
			whole := append(l[:len(l):len(l)], rest...)
			short := append([][]byte{one}, rest...)
			if sha.Chain(whole...) != sha.Chain(short...) {
				t.Errorf("Chain(%x) depends on more than the chain ahead", whole)
			}
		}
	}
}
