package sha_test

import (
	"bytes"
	"crypto/sha256"
	"encoding/binary"
	"encoding/hex"
	"math"
	"strings"
	"testing"

	"citadel/api"
	"citadel/sha"
)

func filled(n int, x byte) []byte { return bytes.Repeat([]byte{x}, n) }

// mixed returns n bytes without a plain pattern, others for another start.
func mixed(n int, start uint32) []byte {
	b := make([]byte, n)
	x := start*2654435761 + 12345
	for i := range b {
		x = x*1664525 + 1013904223
		b[i] = byte(x >> 24)
	}
	return b
}

// inputs: ordinary ones, and all lengths around the edges of the first blocks.
func inputs() [][]byte {
	l := [][]byte{nil, {}, []byte("abc"), []byte("123456789")}
	for x := range 256 {
		l = append(l, []byte{byte(x)})
	}
	for n := range 260 {
		l = append(l, filled(n, 0), filled(n, 255), mixed(n, uint32(n)))
	}
	return append(l, mixed(4096, 1), mixed(65535, 2), mixed(65536, 3), mixed(65591, 4), mixed(65592, 5))
}

// states: the initial one, and others to which no bytes are known to lead.
func states() []sha.State {
	l := []sha.State{sha.First(), {}, {1, 2, 3, 4, 5, 6, 7, 8}}
	var full, high sha.State
	for i := range full {
		full[i], high[i] = math.MaxUint32, 1<<31
	}
	l = append(l, full, high)
	for i := range 8 {
		var one sha.State
		one[i] = 1
		l = append(l, one, fromBytes(mixed(32, uint32(i))))
	}
	return l
}

func fromBytes(b []byte) sha.State {
	var s sha.State
	for i := range s {
		s[i] = binary.BigEndian.Uint32(b[4*i:])
	}
	return s
}

func blocks() [][]byte {
	l := [][]byte{filled(64, 0), filled(64, 255), filled(64, 0x80)}
	for i := range 64 {
		b := make([]byte, 64)
		b[i] = 1 << (i % 8)
		l = append(l, b, mixed(64, uint32(i)))
	}
	return l
}

// P3.1 (First)
func TestFirst(t *testing.T) {
	want := sha.State{0x6a09e667, 0xbb67ae85, 0x3c6ef372, 0xa54ff53a, 0x510e527f, 0x9b05688c, 0x1f83d9ab, 0x5be0cd19}
	if got := sha.First(); got != want {
		t.Errorf("First() = %08x, want %08x", got, want)
	}
	for i, p := range primes(8) {
		if got, want := sha.First()[i], fraction(p, 2); got != want {
			t.Errorf("number %d of First() = %08x; the root of %d has %08x", i, got, p, want)
		}
	}
}

// P3.1 (Eat): against the chapter's definition.
func TestEatAsDefined(t *testing.T) {
	for _, s := range states() {
		for _, block := range blocks() {
			got, errno := sha.Eat(s, block)
			if want := compressed(s, block, constants()); got != want || errno != api.OK {
				t.Fatalf("Eat(%08x, %x) = %08x, %d, want %08x, 0", s, block, got, errno, want)
			}
		}
	}
}

// P3.1 (Eat): against the library's, which is set to the state.
func TestEatAsTheLibrary(t *testing.T) {
	for _, s := range states() {
		for _, block := range blocks() {
			got, errno := sha.Eat(s, block)
			if want := libraryEats(t, s, block); got != want || errno != api.OK {
				t.Fatalf("Eat(%08x, %x) = %08x, %d, want %08x, 0", s, block, got, errno, want)
			}
		}
	}
}

// libraryEats: a marshalled hash of the library is 4 bytes that name it, the state, a block that is not full, and a length.
func libraryEats(t *testing.T, s sha.State, block []byte) sha.State {
	h := sha256.New()
	set := []byte("sha\x03")
	for _, x := range s {
		set = binary.BigEndian.AppendUint32(set, x)
	}
	set = append(set, make([]byte, 64+8)...)
	if err := h.(interface{ UnmarshalBinary([]byte) error }).UnmarshalBinary(set); err != nil {
		t.Fatal(err)
	}
	h.Write(block)
	now, err := h.(interface{ MarshalBinary() ([]byte, error) }).MarshalBinary()
	if err != nil {
		t.Fatal(err)
	}
	return fromBytes(now[4:])
}

// P3.1 (Eat): each of the 64 constants counts, and has its value.
func TestEveryConstant(t *testing.T) {
	block := mixed(64, 1)
	got, _ := sha.Eat(sha.First(), block)
	if want := compressed(sha.First(), block, constants()); got != want {
		t.Fatalf("Eat = %08x, want %08x", got, want)
	}
	for i, p := range primes(64) {
		if k, want := constants()[i], fraction(p, 3); k != want {
			t.Errorf("constant %d = %08x; the root of %d has %08x", i, k, p, want)
		}
		for bit := range 32 {
			others := constants()
			others[i] ^= 1 << bit
			if compressed(sha.First(), block, others) == got {
				t.Errorf("constant %d, bit %d: makes no difference", i, bit)
			}
		}
	}
}

// P3.1 (Eat): a block has exactly 64 bytes; P0.2: beside the error stands the zero State.
func TestEatOfOtherSizes(t *testing.T) {
	for n := range 260 {
		whole := mixed(300, uint32(n)) // what lies beyond the length must not be taken for the rest of the block
		for _, s := range states() {
			got, errno := sha.Eat(s, whole[:n])
			if n == 64 {
				if errno != api.OK {
					t.Errorf("Eat of 64 bytes: %d", errno)
				}
			} else if got != (sha.State{}) || errno != api.ErrArg {
				t.Errorf("Eat of %d bytes = %08x, %d, want zeros, %d", n, got, errno, api.ErrArg)
			}
		}
	}
	if got, errno := sha.Eat(sha.First(), nil); got != (sha.State{}) || errno != api.ErrArg {
		t.Errorf("Eat of nil = %08x, %d", got, errno)
	}
}

// P3.2 (Tail)
func TestTail(t *testing.T) {
	for _, c := range []struct{ n, want int }{
		{0, 64}, {1, 63}, {3, 61}, {54, 10}, {55, 9}, {56, 72}, {57, 71}, {63, 65}, {64, 64}, {65, 63},
		{119, 9}, {120, 72}, {127, 65}, {128, 64}, {1 << 16, 64}, {math.MaxInt32, 65}, {math.MaxInt, 65},
	} {
		if got := sha.Tail(c.n); len(got) != c.want {
			t.Errorf("Tail(%d) has %d bytes, want %d", c.n, len(got), c.want)
		}
	}
	for n := range 1000 {
		checkTail(t, n)
	}
	for shift := range 61 {
		checkTail(t, 1<<shift-1)
		checkTail(t, 1<<shift)
		checkTail(t, 1<<shift+55)
		checkTail(t, 1<<shift+56)
	}
	checkTail(t, math.MaxInt)
}

// checkTail holds Tail(n) against its definition: the smallest number of zero bytes is found by trying.
func checkTail(t *testing.T, n int) {
	zeros := 0
	for (n%64+1+zeros+8)%64 != 0 {
		zeros++
	}
	want := append([]byte{0x80}, make([]byte, zeros)...)
	want = binary.BigEndian.AppendUint64(want, uint64(n)*8)
	if got := sha.Tail(n); !bytes.Equal(got, want) {
		t.Errorf("Tail(%d) = %x, want %x", n, got, want)
	}
}

// P3.2 (Tail): a negative number.
func TestTailOfNegative(t *testing.T) {
	for _, n := range []int{-1, -8, -9, -55, -56, -63, -64, -65, math.MinInt32, math.MinInt + 1, math.MinInt} {
		if got := sha.Tail(n); got != nil {
			t.Errorf("Tail(%d) = %x, want nil", n, got)
		}
	}
}

// P3.2 (Print)
func TestPrint(t *testing.T) {
	s := sha.State{0x00010203, 0x04050607, 0x08090a0b, 0x0c0d0e0f, 0x10111213, 0x14151617, 0x18191a1b, 0x1c1d1e1f}
	for i, x := range sha.Print(s) {
		if int(x) != i {
			t.Errorf("byte %d of Print = %d", i, x)
		}
	}
	for _, s := range states() {
		tag := sha.Print(s)
		if got := fromBytes(tag[:]); got != s {
			t.Errorf("Print(%08x) = %x", s, tag)
		}
	}
	if got := sha.Print(sha.State{}); got != (api.Tag{}) {
		t.Errorf("Print of zeros = %x", got)
	}
}

// P3.2 (Sum)
func TestSum(t *testing.T) {
	for _, c := range []struct{ text, want string }{
		{"", "e3b0c44298fc1c149afbf4c8996fb92427ae41e4649b934ca495991b7852b855"},
		{"abc", "ba7816bf8f01cfea414140de5dae2223b00361a396177a9cb410ff61f20015ad"},
		{"\xbd", "68325720aabd7c82f30f554b313d0570c95accbb7dc4b5aae11204c08ffe732b"},
		{"abcdbcdecdefdefgefghfghighijhijkijkljklmklmnlmnomnopnopq", "248d6a61d20638b8e5c026930c3e6039a33ce45964ff2167f6ecedd419db06c1"},
		{"The quick brown fox jumps over the lazy dog", "d7a8fbb307d7809469ca9abcb0082e4f8d5651e46d3cdb762d02d0bf37c9e592"},
		{strings.Repeat("a", 1000000), "cdc76e5c9914fb9281a1c7e284d73e67f1809a48a497200e046d39ccc7112cd0"},
	} {
		if got := sha.Hex(sha.Sum([]byte(c.text))); got != c.want {
			t.Errorf("Sum of %d bytes = %s, want %s", len(c.text), got, c.want)
		}
	}
	for _, b := range inputs() {
		if got, want := sha.Sum(b), api.Tag(sha256.Sum256(b)); got != want {
			t.Errorf("Sum of %d bytes = %x, want %x", len(b), got, want)
		}
	}
}

// chained is the definition of the chapter.
func chained(l [][]byte) api.Tag {
	if len(l) == 0 {
		return sha256.Sum256(nil)
	}
	last := len(l) - 1
	if last == 0 {
		return sha256.Sum256(l[0])
	}
	t := chained(l[:last])
	return sha256.Sum256(append(t[:], l[last]...))
}

// lists: chains of no argument, of one, of several, of empty ones.
func lists() [][][]byte {
	l := [][][]byte{
		{}, {nil}, {{}}, {nil, nil}, {{}, nil, {}}, {nil, {1}}, {{1}, nil}, {{1}, nil, {2}}, {nil, {1}, nil, nil, {2}},
		{[]byte("abc")}, {[]byte("abc"), []byte("d")}, {[]byte("d"), []byte("abc")}, {[]byte("abcd")}, {[]byte("a"), []byte("b"), []byte("c"), []byte("d")},
	}
	for n := range 100 { // with the 32 bytes ahead these pass the edges of a block
		l = append(l, [][]byte{mixed(n, 1)}, [][]byte{mixed(n, 1), mixed(n, 2)}, [][]byte{mixed(n, 1), mixed(99-n, 2), mixed(n, 3)})
	}
	var long [][]byte
	for n := range 300 {
		long = append(long, mixed(n%70, uint32(n)))
	}
	return append(l, long)
}

// P3.3 (Chain)
func TestChain(t *testing.T) {
	if got := sha.Chain(); got != sha.Sum(nil) {
		t.Errorf("Chain() = %x", got)
	}
	if got := sha.Chain([]byte("abc")); got != sha.Sum([]byte("abc")) {
		t.Errorf("Chain(abc) = %x", got)
	}
	abc := sha.Sum([]byte("abc"))
	if got := sha.Chain([]byte("abc"), []byte("d")); got != sha.Sum(append(abc[:], 'd')) {
		t.Errorf("Chain(abc, d) = %x", got)
	}
	for _, l := range lists() {
		if got, want := sha.Chain(l...), chained(l); got != want {
			t.Errorf("Chain(%x) = %x, want %x", l, got, want)
		}
	}
}

// P3.3 (Chain): an empty argument counts, and so does the bound between two, and their order.
func TestChainsDiffer(t *testing.T) {
	a, b := []byte("a"), []byte("b")
	seen := map[api.Tag]int{}
	for i, l := range [][][]byte{
		{}, {nil, nil}, {nil, nil, nil}, {a}, {a, nil}, {nil, a}, {a, nil, nil}, {nil, a, nil}, {nil, nil, a},
		{a, b}, {b, a}, {[]byte("ab")}, {a, b, nil}, {a, nil, b}, {nil, a, b},
	} {
		tag := sha.Chain(l...)
		if j, there := seen[tag]; there {
			t.Errorf("chains %d and %d have the same digest", i, j)
		}
		seen[tag] = i
	}
}

// P3.4 (Hex)
func TestHex(t *testing.T) {
	var tag api.Tag
	if got := sha.Hex(tag); got != strings.Repeat("0", 64) {
		t.Errorf("Hex of zeros = %s", got)
	}
	for i := range tag {
		tag[i] = byte(i * 8)
	}
	if got, want := sha.Hex(tag), "0008101820283038404850586068707880889098a0a8b0b8c0c8d0d8e0e8f0f8"; got != want {
		t.Errorf("Hex = %s, want %s", got, want)
	}
	for x := range 256 {
		for i := range tag {
			tag = api.Tag{}
			tag[i] = byte(x)
			if got, want := sha.Hex(tag), hex.EncodeToString(tag[:]); got != want {
				t.Errorf("Hex(%v) = %s, want %s", tag, got, want)
			}
		}
	}
}
