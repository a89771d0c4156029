package manifest_test

import (
	"bytes"
	"crypto/sha256"
	"encoding/hex"
	"math"
	"slices"
	"testing"

	"citadel/api"
	"citadel/manifest"
)

func can(t *testing.T, m api.Manifest, want bool) {
	t.Helper()
	if got := manifest.Can(m); got != want {
		t.Errorf("Can(%.300s) = %v", told(m), got)
	}
}

func printed(t *testing.T, m api.Manifest, want []byte) {
	t.Helper()
	if got, e := manifest.Print(m); !bytes.Equal(got, want) || e != api.OK {
		t.Errorf("Print(%.300s) = %.300x, %d, want %.300x", told(m), got, e, want)
	}
}

func notPrinted(t *testing.T, m api.Manifest) {
	t.Helper()
	if got, e := manifest.Print(m); got != nil || e != api.ErrArg {
		t.Errorf("Print(%.300s) = %.300x, %d, want nil, ErrArg", told(m), got, e)
	}
}

func right(t *testing.T, key []byte, m api.Manifest, want bool) {
	t.Helper()
	if got := manifest.Right(key, m); got != want {
		t.Errorf("Right(%.70q, %.300s) = %v", key, told(m), got)
	}
}

// same holds Same to want, either way round.
func same(t *testing.T, a, b api.Manifest, want bool) {
	t.Helper()
	if manifest.Same(a, b) != want || manifest.Same(b, a) != want {
		t.Errorf("Same(%.300s, %.300s) = %v, %v", told(a), told(b), manifest.Same(a, b), manifest.Same(b, a))
	}
}

// allOf holds all calls on a manifest to the definitions.
func allOf(t *testing.T, key []byte, m api.Manifest) {
	t.Helper()
	can(t, m, isEncodable(m))
	if got := manifest.Hash(m); got != hashOf(m) {
		t.Errorf("Hash(%.300s) = %x", told(m), got)
	}
	same(t, m, own(m), true)
	got := manifest.Seal(key, m)
	if !isEncodable(m) {
		notPrinted(t, m)
		right(t, key, m, false)
		right(t, key, sealed(key, m), false)
		if told(got) != told(m) {
			t.Errorf("Seal(%.70q, %.300s) = %.300s", key, told(m), told(got))
		}
		return
	}
	want := sealed(key, m)
	printed(t, m, encoding(m))
	right(t, key, m, m.Tag == want.Tag)
	right(t, key, want, true)
	if told(got) != told(want) {
		t.Errorf("Seal(%.70q, %.300s) = %.300s, want %.300s", key, told(m), told(got), told(want))
	}
}

// P14.1 (Can, Print), P14.2: which versions there may be, each with each of the trials.
func TestVersionsAndTrials(t *testing.T) {
	versions := []int{math.MinInt, math.MinInt + 1, -1 << 40, math.MinInt32, -2, -1, 0, 1, 2, 255, 256, math.MaxInt32, math.MaxInt32 + 1, 1 << 32, 1<<32 + 1, 1<<40 - 1, 1 << 40, 1<<40 + 1, 1 << 41, 1<<40 + 1<<32, math.MaxInt - 1, math.MaxInt}
	trials := []int{math.MinInt, math.MinInt + 1, math.MinInt32, -8, -1, 0, 1, 2, 3, 4, 5, 6, 7, 8, 9, 10, 16, 256 + 1, 1<<32 + 1, 1 << 40, math.MaxInt - 1, math.MaxInt}
	for _, version := range versions {
		for _, trial := range trials {
			may := version >= 1 && version <= 1<<40 && trial >= 1 && trial <= 8
			for _, start := range []api.Manifest{{}, first(), some()} {
				start.Version, start.Trial = version, trial
				can(t, start, may)
				allOf(t, secret(), start)
			}
		}
	}
}

// P14.1 (Can): the chapter's examples, and each edge of the versions and the trials by itself.
func TestCanExamples(t *testing.T) {
	can(t, first(), true)
	for version, want := range map[int]bool{-1: false, 0: false, 1: true, 2: true, 1 << 40: true, 1<<40 + 1: false} {
		can(t, with(first(), func(m *api.Manifest) { m.Version = version }), want)
	}
	for trial, want := range map[int]bool{-1: false, 0: false, 1: true, 7: true, 8: true, 9: false} {
		can(t, with(first(), func(m *api.Manifest) { m.Trial = trial }), want)
	}
}

// P14.1 (Can, Print), P14.2 (Seal, Right, Hash): ordinary manifests, and the edges.
func TestEncodables(t *testing.T) {
	for _, m := range encodables() {
		can(t, m, true)
		allOf(t, secret(), m)
	}
	for _, m := range others() {
		can(t, m, false)
		allOf(t, secret(), m)
	}
}

// P14.1 (Can, Print): how many windows, partitions and channels there may be, and how long an image; nothing else of a configuration counts.
func TestConfigurations(t *testing.T) {
	for _, n := range []int{0, 1, 5, 6, 7, 8, 9, 11, 12, 13, 14, 100} {
		for i, c := range []api.Config{
			{Windows: make([]api.Window, n)},
			{Parts: make([]api.Partition, n)},
			{Channels: make([]api.Channel, n)},
			{Parts: []api.Partition{{Image: mixed(500+n, 1)}}},
			{Parts: []api.Partition{{}, {ID: -1, Image: mixed(500+n, 1)}}},
		} {
			m := api.Manifest{Version: 1, Trial: 1, Config: c}
			can(t, m, n <= []int{12, 6, 8, 12, 12}[i])
			allOf(t, secret(), m)
		}
	}
}

// P14.1 (Can): a configuration that is encodable and not valid is no reason.
func TestInvalidIsEncodable(t *testing.T) {
	for _, turn := range turns() {
		m := with(some(), turn)
		can(t, m, true)
		allOf(t, secret(), m)
	}
}

// P14.1 (Print): the encoding of a manifest, byte by byte.
func TestPrintBytes(t *testing.T) {
	m := api.Manifest{Version: 1<<40 - 254, Trial: 8, Config: plain(1)}
	for i := range 32 {
		m.Prev[i], m.Tag[i] = byte(100+i), byte(200+i)
	}
	printed(t, m, []byte{
		0, 0, 0, 255, 255, 255, 255, 2,
		100, 101, 102, 103, 104, 105, 106, 107, 108, 109, 110, 111, 112, 113, 114, 115, 116, 117, 118, 119, 120, 121, 122, 123, 124, 125, 126, 127, 128, 129, 130, 131,
		0, 0, 0, 0, 0, 0, 0, 8,
		0, 0, 0, 69,
		0, 0, 0, 0, 0, 0, 0, 1, 0, 0, 0, 0, 0, 0, 0, 2, 0, 0, 0, 0, 0, 0, 0, 1,
		0, 0, 0, 0, 0, 0, 0, 1, 0, 0, 0, 0, 0, 0, 0, 1, 0, 0, 0, 0, 0, 0, 0, 0, 0, 0, 0, 0, 0, 0, 0, 16, 0, 0, 0, 0, 0,
		0, 0, 0, 0, 0, 0, 0, 0,
		200, 201, 202, 203, 204, 205, 206, 207, 208, 209, 210, 211, 212, 213, 214, 215, 216, 217, 218, 219, 220, 221, 222, 223, 224, 225, 226, 227, 228, 229, 230, 231,
	})
}

// P14.1 (Print): how long an encoding is at least and at most.
func TestPrintSizes(t *testing.T) {
	for _, x := range []struct {
		m    api.Manifest
		size int
	}{{api.Manifest{Version: 1, Trial: 1}, 108}, {first(), 153}, {full(), 3866}} {
		if b, e := manifest.Print(x.m); len(b) != x.size || e != api.OK {
			t.Errorf("%d bytes, %d, want %d", len(b), e, x.size)
		}
	}
}

// P14.2 (Seal, Hash, Right): R's tag and its hash, which another program worked out.
func TestFirstKnown(t *testing.T) {
	const tag, hash = "135650366dd9f5565c57660295039e3ca78f49030fc698600fe74f30e4a7b3da", "cc7d8869f6d935842e2daa6a62264e2970cacf40d6ffb37422ca300968b3703b"
	m := manifest.Seal(secret(), api.Manifest{Version: 1, Trial: 1, Config: plain(1)})
	if got := hex.EncodeToString(m.Tag[:]); got != tag {
		t.Errorf("R's tag is %s", got)
	}
	if got := manifest.Hash(m); hex.EncodeToString(got[:]) != hash {
		t.Errorf("R's hash is %x", got)
	}
	right(t, secret(), m, true)
}

// P14.2 (Hash): of the whole encoding: the tag counts too.
func TestHash(t *testing.T) {
	seen := map[api.Tag]bool{}
	for _, turn := range append(turns(), func(m *api.Manifest) {}) {
		m := with(some(), turn)
		got := manifest.Hash(m)
		if seen[got] || got != api.Tag(sha256.Sum256(encoding(m))) {
			t.Errorf("Hash(%.300s) = %x", told(m), got)
		}
		seen[got] = true
	}
	for _, m := range others() {
		if got := manifest.Hash(m); got != (api.Tag{}) {
			t.Errorf("Hash(%.300s) = %x", told(m), got)
		}
	}
}

// P14.2 (Seal, Right): each key, whatever the tag was before.
func TestKeys(t *testing.T) {
	for _, m := range []api.Manifest{first(), some(), full(), {Version: 1, Trial: 1}} {
		for i, key := range keys() {
			allOf(t, key, m)
			got := manifest.Seal(key, m)
			right(t, key, got, true)
			for j, other := range keys() {
				right(t, other, got, i == j)
			}
			if again := manifest.Seal(key, got); told(again) != told(got) {
				t.Errorf("sealed twice under %.70q: %.300s, %.300s", key, told(got), told(again))
			}
		}
	}
}

// P14.2 (Seal, Right): keys that chapter 4 makes one: a longer one and its digest, a short one and zero bytes behind it.
func TestEquivalentKeys(t *testing.T) {
	long := mixed(65, 3)
	digest := sha256.Sum256(long)
	for _, pair := range [][2][]byte{{long, digest[:]}, {secret(), []byte("key\x00")}, {nil, make([]byte, 64)}, {{}, nil}} {
		right(t, pair[1], manifest.Seal(pair[0], some()), true)
		right(t, pair[0], manifest.Seal(pair[1], some()), true)
	}
	right(t, make([]byte, 65), manifest.Seal(nil, some()), false)
}

// P14.2 (Right): tags that are correct for something else: under the key itself, under a key for another purpose, of the whole encoding, of the configuration.
func TestWrongTags(t *testing.T) {
	m := sealed(secret(), some())
	derived := func(purpose string) []byte {
		key := library(secret(), []byte(purpose))
		return key[:]
	}
	key := derived("manifest\x00")
	for i, tag := range []api.Tag{
		{}, some().Tag, hashOf(m), sha256.Sum256(signedPart(m)), library(secret(), signedPart(m)),
		library(derived("manifest"), signedPart(m)), library(derived("Manifest\x00"), signedPart(m)), library(derived("manifest\x00\x00\x00\x00\x00\x00\x00\x00\x00"), signedPart(m)),
		library(key, encoding(m)), library(key, form(m.Config)), library(key, signedPart(first())), library(key, nil), api.Tag(key),
	} {
		m.Tag = tag
		right(t, secret(), m, false)
		if judged(t, secret(), first(), m) != api.ErrTag {
			t.Errorf("%d: another error", i)
		}
	}
}

// P14.2 (Right): each bit of the tag counts.
func TestBitsOfTheTag(t *testing.T) {
	for _, start := range []api.Manifest{first(), sealed(secret(), full())} {
		for i := range 256 {
			right(t, secret(), with(start, func(m *api.Manifest) { m.Tag[i/8] ^= 1 << (i % 8) }), false)
		}
		right(t, secret(), start, true)
	}
}

// P14.2 (Right): the tag that a manifest that is not encodable would have doesn't help it.
func TestRightNotEncodable(t *testing.T) {
	for _, key := range keys() {
		for _, m := range others() {
			right(t, key, m, false)
			right(t, key, sealed(key, m), false)
		}
	}
}

// P14.2 (Seal): a manifest that is not encodable keeps its tag.
func TestSealNotEncodable(t *testing.T) {
	for _, m := range others() {
		m.Tag = api.Tag(mixed(32, 9))
		if got := manifest.Seal(secret(), m); told(got) != told(m) {
			t.Errorf("Seal(%.300s) = %.300s", told(m), told(got))
		}
	}
}

// P14.2 (Same): each field counts, and each of a configuration, whether the manifests are encodable or not.
func TestSame(t *testing.T) {
	for _, version := range []int{7, 0, math.MinInt, math.MaxInt - 1} {
		start := some()
		start.Version = version
		same(t, start, own(start), true)
		for _, turn := range turns() {
			same(t, start, with(start, turn), false)
		}
	}
	l := slices.Concat(encodables(), others())
	for i, a := range l {
		for j, b := range l {
			if i != j && told(a) != told(b) {
				same(t, a, b, false)
			}
		}
		same(t, a, own(a), true)
	}
	for i := range 256 {
		same(t, first(), with(first(), func(m *api.Manifest) { m.Prev[i/8] ^= 1 << (i % 8) }), false)
		same(t, first(), with(first(), func(m *api.Manifest) { m.Tag[i/8] ^= 1 << (i % 8) }), false)
	}
}
