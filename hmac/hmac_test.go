package hmac_test

import (
	"bytes"
	stdhmac "crypto/hmac"
	"crypto/sha256"
	"encoding/binary"
	"encoding/hex"
	"math"
	"strings"
	"testing"

	"citadel/api"
	"citadel/hmac"
)

func filled(n int, x byte) []byte { return bytes.Repeat([]byte{x}, n) }

// mixed returns n bytes without a plain pattern, others for another start.
func mixed(n int, start uint32) []byte {
	b := make([]byte, n)
	x := start*2654435761 + 12345
	for i := range b {
		x = x*1664525 + 1013904223
		b[i] = byte(x >> 24)
	}
	return b
}

// keys: ordinary ones, and the edges around the longest that is its own short form.
func keys() [][]byte {
	l := [][]byte{nil, {}, {0}, []byte("k"), []byte("Jefe"), filled(20, 0x0b), filled(64, 0x36), filled(64, 0x5c), filled(64, 0), filled(65, 0)}
	for _, n := range []int{1, 31, 32, 33, 62, 63, 64, 65, 66, 127, 128, 129, 1000, 65536, 65537} {
		l = append(l, mixed(n, uint32(n)))
	}
	return l
}

// messages: ordinary ones, and the edges of a tag's size and of sha's blocks.
func messages() [][]byte {
	l := [][]byte{nil, {}, {0}, []byte("Hi There"), []byte("what do ya want for nothing?"), filled(32, 0), filled(64, 0)}
	for _, n := range []int{1, 31, 32, 33, 54, 55, 56, 63, 64, 65, 119, 120, 128, 1000} {
		l = append(l, mixed(n, uint32(n+7)))
	}
	return l
}

// library is HMAC-SHA-256 as Go's library has it.
func library(key, b []byte) api.Tag {
	h := stdhmac.New(sha256.New, key)
	h.Write(b)
	return api.Tag(h.Sum(nil))
}

// short and defined are the chapter's definitions.
func short(key []byte) []byte {
	if len(key) <= 64 {
		return key
	}
	t := sha256.Sum256(key)
	return t[:]
}

func defined(key, b []byte) api.Tag {
	in, out := filled(64, 0x36), filled(64, 0x5c)
	for i, x := range short(key) {
		in[i] ^= x
		out[i] ^= x
	}
	t := sha256.Sum256(append(in, b...))
	return sha256.Sum256(append(out, t[:]...))
}

// P4.1 (Short)
func TestShort(t *testing.T) {
	for _, c := range []struct{ n, want int }{{0, 0}, {1, 1}, {63, 63}, {64, 64}, {65, 32}, {66, 32}, {131, 32}, {65536, 32}} {
		if got := hmac.Short(make([]byte, c.n)); len(got) != c.want {
			t.Errorf("Short of %d bytes has %d, want %d", c.n, len(got), c.want)
		}
	}
	for _, key := range keys() {
		if got, want := hmac.Short(key), short(key); !bytes.Equal(got, want) {
			t.Errorf("Short of %d bytes = %x, want %x", len(key), got, want)
		}
	}
}

// P4.1 (Sum): the examples of the chapter, and RFC 4231's.
func TestSumExamples(t *testing.T) {
	for _, c := range []struct {
		key  []byte
		text string
		want string
	}{
		{filled(20, 0x0b), "Hi There", "b0344c61d8db38535ca8afceaf0bf12b881dc200c9833da726e9376c2e32cff7"},
		{[]byte("Jefe"), "what do ya want for nothing?", "5bdcc146bf60754e6a042426089575c75a003f089d2739839dec58b964ec3843"},
		{filled(20, 0xaa), strings.Repeat("\xdd", 50), "773ea91e36800e46854db8ebd09181a72959098b3ef8c122d9635514ced565fe"},
		{filled(131, 0xaa), "Test Using Larger Than Block-Size Key - Hash Key First", "60e431591ee0b67f0d8a26aacbf5b77f8e0bc6213728c5140546040f0ee37f54"},
		{nil, "", "b613679a0814d9ec772f95d778c35fc5ff1697c493715653c6c712144292c5ad"},
	} {
		tag := hmac.Sum(c.key, []byte(c.text))
		if got := hex.EncodeToString(tag[:]); got != c.want {
			t.Errorf("Sum(%x, %q) = %s, want %s", c.key, c.text, got, c.want)
		}
	}
}

// P4.1 (Sum): against the chapter's definition and the library.
func TestSumAsDefined(t *testing.T) {
	for _, key := range keys() {
		for _, b := range messages() {
			got := hmac.Sum(key, b)
			if want := defined(key, b); got != want {
				t.Errorf("key of %d bytes, %d bytes: %x, want %x", len(key), len(b), got, want)
			}
			if want := library(key, b); got != want {
				t.Errorf("key of %d bytes, %d bytes: %x, the library's is %x", len(key), len(b), got, want)
			}
		}
	}
	for n := range 260 {
		if got, want := hmac.Sum(mixed(n, 1), mixed(260-n, 2)), library(mixed(n, 1), mixed(260-n, 2)); got != want {
			t.Errorf("key of %d bytes, %d bytes: %x, want %x", n, 260-n, got, want)
		}
	}
	if b := mixed(1<<20, 3); hmac.Sum(b, b) != library(b, b) {
		t.Error("a key and a message of 2^20 bytes: another tag than the library's")
	}
}

// P4.1 (Same): each bit of each byte counts, and two that are otherwise don't make up for one another.
func TestSame(t *testing.T) {
	for _, a := range []api.Tag{{}, api.Tag(filled(32, 255)), api.Tag(mixed(32, 1))} {
		if b := a; !hmac.Same(a, b) {
			t.Errorf("Same(%x, %x) = false", a, b)
		}
		for bit := range 256 {
			b := a
			b[bit/8] ^= 1 << (bit % 8)
			if hmac.Same(a, b) || hmac.Same(b, a) {
				t.Errorf("Same(%x, %x) = true", a, b)
			}
			c := b
			c[(bit/8+1)%32] ^= 1 << (bit % 8)
			if hmac.Same(a, c) || hmac.Same(c, a) {
				t.Errorf("Same(%x, %x) = true", a, c)
			}
		}
	}
	if hmac.Same(api.Tag{}, api.Tag(filled(32, 255))) {
		t.Error("Same of all zeros and all ones = true")
	}
	if a := api.Tag(mixed(32, 1)); hmac.Same(a, api.Tag(reversed(a[:]))) {
		t.Error("Same of a tag and its bytes the other way round = true")
	}
}

func reversed(b []byte) []byte {
	back := make([]byte, 0, len(b))
	for i := range b {
		back = append(back, b[len(b)-1-i])
	}
	return back
}

type purpose struct {
	label   string
	numbers []int
}

// bytes: what is tagged for the purpose, by the chapter.
func (p purpose) bytes() []byte {
	b := append([]byte(p.label), 0)
	for _, x := range p.numbers {
		b = binary.BigEndian.AppendUint64(b, uint64(x))
	}
	return b
}

// purposes: no two are the same, and no label has a zero byte.
func purposes() []purpose {
	l := []purpose{
		{"", nil}, {"x", nil}, {"xx", nil}, {"ax", nil}, {"x ", nil}, {"X", nil}, {"\x01", nil}, {"\xff\xfe", nil}, {"é", nil},
		{"manifest", nil}, {"a manifest", nil}, {"nifest", nil}, {strings.Repeat("long", 100), nil},
		{"x", []int{0, 0}}, {"x", []int{1, 2}}, {"x", []int{2, 1}}, {"x", []int{1, 2, 3}}, {"x", []int{12}}, {"x1", []int{2}}, {"12", nil},
		{"x", []int{-1, 1}}, {"x", []int{1, -1}}, {"x", []int{0, 1}}, {"x", []int{1, 0}}, {"", []int{1, 2}},
	}
	numbers := []int{0, 1, 2, -1, -2, 255, 256, -256, math.MaxInt32, math.MinInt32, 1 << 32, math.MaxInt, math.MinInt}
	for shift := 9; shift < 63; shift++ {
		if shift != 32 {
			numbers = append(numbers, 1<<shift)
		}
	}
	for _, x := range numbers {
		l = append(l, purpose{"x", []int{x}}, purpose{"", []int{x}}, purpose{"ax", []int{x}})
	}
	var many []int
	for i := range 100 {
		many = append(many, i*i*i-5000)
	}
	return append(l, purpose{"x", many}, purpose{"x", many[:99]})
}

// P4.2 (Derive)
func TestDerive(t *testing.T) {
	want := library([]byte("k"), []byte{'x', 0, 0, 0, 0, 0, 0, 0, 0, 1, 0, 0, 0, 0, 0, 0, 0, 2})
	if got := hmac.Derive([]byte("k"), "x", 1, 2); !bytes.Equal(got, want[:]) {
		t.Errorf("Derive(k, x, 1, 2) = %x, want %x", got, want)
	}
	want = library([]byte("k"), []byte{0})
	if got := hmac.Derive([]byte("k"), ""); !bytes.Equal(got, want[:]) {
		t.Errorf("Derive(k, no label) = %x, want %x", got, want)
	}
	want = library([]byte("k"), []byte("x\x00\xff\xff\xff\xff\xff\xff\xff\xfe"))
	if got := hmac.Derive([]byte("k"), "x", -2); !bytes.Equal(got, want[:]) {
		t.Errorf("Derive(k, x, -2) = %x, want %x", got, want)
	}
	for _, key := range keys() {
		for _, p := range purposes() {
			want := library(key, p.bytes())
			if got := hmac.Derive(key, p.label, p.numbers...); !bytes.Equal(got, want[:]) {
				t.Errorf("key of %d bytes, purpose %q %d: %x, want %x", len(key), p.label, p.numbers, got, want)
			}
		}
	}
}

// P4.2 (Derive): a label with zero bytes is taken as it is.
func TestDeriveOfZeroLabels(t *testing.T) {
	for _, label := range []string{"\x00", "x\x00", "\x00x", "x\x00y", strings.Repeat("\x00", 64)} {
		for _, numbers := range [][]int{nil, {0}, {1, -1}} {
			want := library([]byte("k"), purpose{label, numbers}.bytes())
			if got := hmac.Derive([]byte("k"), label, numbers...); !bytes.Equal(got, want[:]) {
				t.Errorf("label %q, %d: %x, want %x", label, numbers, got, want)
			}
		}
	}
}

// P4.3 (Seal)
func TestSeal(t *testing.T) {
	for _, key := range keys() {
		for _, b := range messages() {
			tag := library(key, b)
			if got, want := hmac.Seal(key, b), append(bytes.Clone(b), tag[:]...); !bytes.Equal(got, want) {
				t.Errorf("key of %d bytes, %d bytes: sealed %x, want %x", len(key), len(b), got, want)
			}
		}
	}
}

// P4.3 (Open)
func TestOpen(t *testing.T) {
	for _, key := range keys() {
		for _, b := range messages() {
			tag := library(key, b)
			if got, ok := hmac.Open(key, append(bytes.Clone(b), tag[:]...)); !ok || !bytes.Equal(got, b) {
				t.Errorf("key of %d bytes, %d bytes: opened %x, %v", len(key), len(b), got, ok)
			}
		}
	}
}

// P4.3 (Open): what is no sealed message; P0.2: beside false stands nil.
func TestOpenOfOthers(t *testing.T) {
	refused := func(what string, key, sealed []byte) {
		t.Helper()
		if got, ok := hmac.Open(key, sealed); ok || got != nil {
			t.Errorf("%s: opened %x, %v, want nil, false", what, got, ok)
		}
	}
	for _, key := range [][]byte{nil, []byte("k"), mixed(65, 1)} {
		for n := range 100 {
			refused("zeros", key, filled(n, 0))
			refused("ones", key, filled(n, 255))
			refused("mixed", key, mixed(n, 1))
		}
		empty := library(key, nil)
		refused("31 bytes of the empty message", key, empty[:31])
		refused("the last 31", key, empty[1:])
		tag, other := library(key, []byte("abc")), library(key, []byte("abd"))
		refused("the tag ahead of the bytes", key, append(tag[:], "abc"...))
		refused("another message's tag", key, append([]byte("abc"), other[:]...))
		refused("the tag alone", key, tag[:])
		refused("the tag twice", key, append(append([]byte("abc"), tag[:]...), tag[:]...))
	}
}

// P4.3 (Open): a message that was sealed under another key.
func TestOpenUnderAnotherKey(t *testing.T) {
	for _, b := range messages() {
		sealed := hmac.Seal([]byte("key"), b)
		for _, key := range [][]byte{nil, []byte("ke"), []byte("kez"), []byte("Key"), []byte("key1"), []byte("\x00key"), mixed(64, 1), mixed(65, 1)} {
			if got, ok := hmac.Open(key, sealed); ok || got != nil {
				t.Errorf("key %x: opened %x, %v, want nil, false", key, got, ok)
			}
		}
	}
}
