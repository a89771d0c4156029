package hmac_test

import (
	"bytes"
	"testing"

	"citadel/api"
	"citadel/hmac"
)

// P4.4 (equivalent keys)
func TestEquivalentKeys(t *testing.T) {
	for _, key := range keys() {
		form := hmac.Short(key)
		for _, b := range messages() {
			want := hmac.Sum(key, b)
			if got := hmac.Sum(form, b); got != want {
				t.Errorf("key of %d bytes: its short form's tag is %x, want %x", len(key), got, want)
			}
			for n := len(form); n <= 64; n++ {
				longer := append(bytes.Clone(form), make([]byte, n-len(form))...)
				if got := hmac.Sum(longer, b); got != want {
					t.Errorf("key of %d bytes: with zeros up to %d its tag is %x, want %x", len(key), n, got, want)
				}
			}
		}
	}
}

// P4.4 (equivalent keys): what is sealed and derived under one is that under the other.
func TestEquivalentKeysSeal(t *testing.T) {
	for _, key := range keys() {
		form := hmac.Short(key)
		padded := append(bytes.Clone(form), make([]byte, 64-len(form))...)
		for _, other := range [][]byte{form, padded} {
			if !bytes.Equal(hmac.Derive(key, "x", 1), hmac.Derive(other, "x", 1)) {
				t.Errorf("key of %d bytes: another key is derived", len(key))
			}
			if b, ok := hmac.Open(other, hmac.Seal(key, []byte("abc"))); !ok || string(b) != "abc" {
				t.Errorf("key of %d bytes: opened %x, %v", len(key), b, ok)
			}
		}
	}
}

// P4.4 (equivalent keys): zeros beyond 64 bytes, or other bytes, make another key.
func TestOtherKeysDiffer(t *testing.T) {
	b := []byte("abc")
	seen := map[api.Tag]int{}
	for i, key := range [][]byte{
		nil, {1}, {0, 1}, {1, 1}, []byte("k"), []byte("K"), filled(63, 1), filled(64, 1), filled(65, 1),
		filled(65, 0), filled(66, 0), append([]byte("k"), make([]byte, 64)...), append(filled(64, 1), 0), append(filled(64, 1), 0, 0),
	} {
		tag := hmac.Sum(key, b)
		if j, there := seen[tag]; there {
			t.Errorf("keys %d and %d have the same tag", i, j)
		}
		seen[tag] = i
	}
}

// P4.5 (integrity): what was sealed is opened under the same key.
func TestOpenOfSealed(t *testing.T) {
	for _, key := range keys() {
		for _, b := range messages() {
			if got, ok := hmac.Open(key, hmac.Seal(key, b)); !ok || !bytes.Equal(got, b) {
				t.Errorf("key of %d bytes, %d bytes: opened %x, %v", len(key), len(b), got, ok)
			}
		}
	}
}

// P4.5 (integrity): no byte may be otherwise, be it in the bytes or in the tag.
func TestEveryByteCounts(t *testing.T) {
	for _, n := range []int{0, 1, 31, 32, 33, 64, 65, 100} {
		for _, key := range [][]byte{nil, []byte("k"), mixed(65, 1)} {
			sealed := hmac.Seal(key, mixed(n, 2))
			for i := range sealed {
				for bit := range 8 {
					changed := bytes.Clone(sealed)
					changed[i] ^= 1 << bit
					if got, ok := hmac.Open(key, changed); ok || got != nil {
						t.Errorf("%d bytes, byte %d, bit %d: opened %x, %v", n, i, bit, got, ok)
					}
				}
			}
		}
	}
	sealed := hmac.Seal([]byte("k"), mixed(33, 2))
	for i := range sealed {
		for x := range 256 {
			changed := bytes.Clone(sealed)
			changed[i] = byte(x)
			if _, ok := hmac.Open([]byte("k"), changed); ok != bytes.Equal(changed, sealed) {
				t.Errorf("byte %d is %d: opened %v", i, x, ok)
			}
		}
	}
}

// P4.5 (integrity): a prefix is opened only if it was sealed itself; nor is a piece, or more than was sealed.
func TestPrefixes(t *testing.T) {
	for _, key := range [][]byte{nil, []byte("k"), mixed(65, 1)} {
		for _, b := range messages() {
			once := hmac.Seal(key, b)
			twice := hmac.Seal(key, once)
			for n := range len(twice) + 1 {
				got, ok := hmac.Open(key, twice[:n])
				switch n {
				case len(once):
					if !ok || !bytes.Equal(got, b) {
						t.Errorf("%d bytes, sealed twice, the first seal: opened %x, %v", len(b), got, ok)
					}
				case len(twice):
					if !ok || !bytes.Equal(got, once) {
						t.Errorf("%d bytes, sealed twice: opened %x, %v", len(b), got, ok)
					}
				default:
					if ok || got != nil {
						t.Errorf("%d bytes, sealed twice, %d bytes of it: opened %x, %v", len(b), n, got, ok)
					}
				}
			}
			if _, ok := hmac.Open(key, append(bytes.Clone(once), 0)); ok {
				t.Errorf("%d bytes, sealed, and a byte more: opened", len(b))
			}
			if _, ok := hmac.Open(key, append([]byte{0}, once...)); ok {
				t.Errorf("%d bytes, sealed, behind a byte: opened", len(b))
			}
		}
	}
}

// P4.6 (separation of purposes): other labels or numbers, another key.
func TestPurposesDiffer(t *testing.T) {
	for _, key := range [][]byte{nil, []byte("k"), mixed(65, 1)} {
		seen := map[string]purpose{}
		for _, p := range purposes() {
			text := string(hmac.Derive(key, p.label, p.numbers...))
			if q, there := seen[text]; there {
				t.Errorf("purposes %q %d and %q %d have the same key", p.label, p.numbers, q.label, q.numbers)
			}
			seen[text] = p
		}
	}
}

// P4.6 (separation of purposes): what ends a label is not taken for a number's bytes, nor one number's for another's.
func TestBytesOfPurposesDiffer(t *testing.T) {
	eight := func(b ...byte) []byte { return append(make([]byte, 8-len(b)), b...) }
	for _, c := range []struct {
		p    purpose
		want []byte
	}{
		{purpose{"", nil}, []byte{0}},
		{purpose{"", []int{0}}, append([]byte{0}, eight()...)},
		{purpose{"a", nil}, []byte{'a', 0}},
		{purpose{"a", []int{'b'}}, append([]byte{'a', 0}, eight('b')...)},
		{purpose{"a", []int{1, 256}}, append(append([]byte{'a', 0}, eight(1)...), eight(1, 0)...)},
		{purpose{"a", []int{-1}}, append([]byte{'a', 0}, filled(8, 255)...)},
	} {
		want := hmac.Sum([]byte("k"), c.want)
		if got := hmac.Derive([]byte("k"), c.p.label, c.p.numbers...); !bytes.Equal(got, want[:]) {
			t.Errorf("purpose %q %d: %x, want the tag of %x", c.p.label, c.p.numbers, got, c.want)
		}
	}
}
