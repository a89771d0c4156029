package manifest_test

import (
	stdhmac "crypto/hmac"
	"crypto/sha256"
	"encoding/binary"
	"fmt"
	"slices"
	"testing"

	"citadel/api"
	"citadel/manifest"
	"citadel/valid"
)

// The limits, as the chapters have them.
const (
	mostVersion  = 1 << 40
	mostTrial    = 8
	mostWindows  = 12
	mostParts    = 6
	mostChannels = 8
	mostImage    = 512
)

// isEncodable: the chapter's definition.
func isEncodable(m api.Manifest) bool {
	for _, p := range m.Config.Parts {
		if len(p.Image) > mostImage {
			return false
		}
	}
	c := m.Config
	return m.Version >= 1 && m.Version <= mostVersion && m.Trial >= 1 && m.Trial <= mostTrial && len(c.Windows) <= mostWindows && len(c.Parts) <= mostParts && len(c.Channels) <= mostChannels
}

// form: the encoding of any configuration.
func form(c api.Config) []byte {
	var b []byte
	add := func(l ...int) {
		for _, n := range l {
			b = binary.BigEndian.AppendUint64(b, uint64(n))
		}
	}
	add(len(c.Windows))
	for _, x := range c.Windows {
		add(x.Len, x.Part)
	}
	add(len(c.Parts))
	for _, p := range c.Parts {
		add(p.ID, p.Region.Base, p.Region.Size)
		keep := byte(0)
		if p.Keep {
			keep = 1
		}
		b = append(b, keep)
		b = binary.BigEndian.AppendUint32(b, uint32(len(p.Image)))
		b = append(b, p.Image...)
	}
	add(len(c.Channels))
	for _, x := range c.Channels {
		add(x.ID, x.From, x.To, x.Cap, x.Size)
	}
	return b
}

// signedPart: the chapter's definition, of any manifest.
func signedPart(m api.Manifest) []byte { return signedAround(m, form(m.Config)) }

// signedAround returns the signed part of m with these bytes in the place of its configuration's encoding.
func signedAround(m api.Manifest, c []byte) []byte {
	b := binary.BigEndian.AppendUint64(nil, uint64(m.Version))
	b = append(b, m.Prev[:]...)
	b = binary.BigEndian.AppendUint64(b, uint64(m.Trial))
	b = binary.BigEndian.AppendUint32(b, uint32(len(c)))
	return append(b, c...)
}

// encoding: the chapter's definition, of any manifest.
func encoding(m api.Manifest) []byte { return append(signedPart(m), m.Tag[:]...) }

// library is HMAC-SHA-256 as Go's library has it.
func library(key, b []byte) api.Tag {
	h := stdhmac.New(sha256.New, key)
	h.Write(b)
	return api.Tag(h.Sum(nil))
}

// tagOf returns the tag of a signed part under key.
func tagOf(key, part []byte) api.Tag {
	derived := library(key, []byte("manifest\x00"))
	return library(derived[:], part)
}

// sealed returns m with the correct tag, in memory of its own.
func sealed(key []byte, m api.Manifest) api.Manifest {
	m = own(m)
	m.Tag = tagOf(key, signedPart(m))
	return m
}

// hashOf returns the hash of m, and 32 zero bytes for one that is not encodable.
func hashOf(m api.Manifest) api.Tag {
	if !isEncodable(m) {
		return api.Tag{}
	}
	return sha256.Sum256(encoding(m))
}

// follows: chapter 13's definition.
func follows(from, to api.Config) bool {
	for _, p := range from.Parts {
		for _, q := range to.Parts {
			if p.ID == q.ID && p.Keep && q.Keep && p.Region.Size != q.Region.Size {
				return false
			}
		}
	}
	return valid.Fits(from) && valid.Fits(to)
}

// errnoOf: the chapter's errors of Check in their order, for the encoding of m.
func errnoOf(key []byte, running, m api.Manifest) api.Errno {
	switch {
	case !isEncodable(m):
		return api.ErrManifest
	case m.Tag != tagOf(key, signedPart(m)):
		return api.ErrTag
	case m.Prev != hashOf(running):
		return api.ErrChain
	case m.Version <= running.Version:
		return api.ErrStale
	case !valid.Fits(m.Config):
		return valid.Check(m.Config)
	case !follows(running.Config, m.Config):
		return api.ErrCompat
	}
	return api.OK
}

// secret: the chapter's key.
func secret() []byte { return []byte("key") }

// mixed returns n bytes without a plain pattern, others for another start.
func mixed(n int, start uint32) []byte {
	b := make([]byte, n)
	x := start*2654435761 + 12345
	for i := range b {
		x = x*1664525 + 1013904223
		b[i] = byte(x >> 24)
	}
	return b
}

// keys: no key, ordinary ones, and the edges around the longest that is its own short form; no two lead to the same tags.
func keys() [][]byte {
	l := [][]byte{nil, []byte("k"), secret(), []byte("kez"), []byte("manifest")}
	for _, n := range []int{1, 31, 32, 33, 63, 64, 65, 66, 1000} {
		l = append(l, mixed(n, uint32(n)))
	}
	return l
}

func part(id, base, size int, keep bool) api.Partition {
	return api.Partition{ID: id, Region: api.Region{Base: base, Size: size}, Keep: keep}
}

// plain: the chapter's C, with its window for this partition.
func plain(id int) api.Config {
	return api.Config{Windows: []api.Window{{Len: 2, Part: id}}, Parts: []api.Partition{part(1, 0, 16, false)}}
}

// first: the chapter's R.
func first() api.Manifest {
	return sealed(secret(), api.Manifest{Version: 1, Trial: 1, Config: plain(1)})
}

// next returns a successor of m with the same configuration, not sealed.
func next(m api.Manifest) api.Manifest {
	return api.Manifest{Version: m.Version + 1, Prev: hashOf(m), Trial: 1, Config: own(m).Config}
}

// some: a manifest with a few of everything, and a valid configuration; not sealed.
func some() api.Manifest {
	c := api.Config{
		Windows: []api.Window{{Len: 3, Part: 1}, {Len: 2}, {Len: 3, Part: 2}, {Len: 1, Part: 4}},
		Parts: []api.Partition{
			{ID: 1, Region: api.Region{Base: 16, Size: 32}, Keep: true, Image: []byte{1, 2}},
			{ID: 2, Region: api.Region{Base: 64, Size: 16}},
			{ID: 4, Region: api.Region{Base: 1024, Size: 512}, Keep: true, Image: mixed(512, 4)},
		},
		Channels: []api.Channel{{ID: 1, From: 1, To: 2, Cap: 3, Size: 4}, {ID: 7, From: 4, To: 1, Cap: 4, Size: 16}},
	}
	return api.Manifest{Version: 7, Prev: api.Tag(mixed(32, 1)), Trial: 3, Config: c, Tag: api.Tag(mixed(32, 2))}
}

// full: as much of everything as there may be, and a valid configuration; not sealed.
func full() api.Manifest {
	c := api.Config{Windows: []api.Window{{Len: 53}}}
	for i := range 11 {
		c.Windows = append(c.Windows, api.Window{Len: 1, Part: i % 7})
	}
	for i := range 6 {
		p := part(i+1, 4096-512*(i+1), 512, true)
		p.Image = mixed(512, uint32(i))
		c.Parts = append(c.Parts, p)
	}
	for i := range 8 {
		c.Channels = append(c.Channels, api.Channel{ID: i + 1, From: i%6 + 1, To: (i+1)%6 + 1, Cap: 4, Size: 16})
	}
	m := api.Manifest{Version: mostVersion, Trial: mostTrial, Config: c}
	for i := range m.Prev {
		m.Prev[i], m.Tag[i] = 255, 255
	}
	return m
}

// own returns m in memory of its own.
func own(m api.Manifest) api.Manifest {
	c := m.Config
	m.Config = api.Config{Windows: slices.Clone(c.Windows), Parts: slices.Clone(c.Parts), Channels: slices.Clone(c.Channels)}
	for i, p := range c.Parts {
		m.Config.Parts[i].Image = slices.Clone(p.Image)
	}
	return m
}

// with returns m with some changes, in memory of its own.
func with(m api.Manifest, turns ...func(m *api.Manifest)) api.Manifest {
	m = own(m)
	for _, turn := range turns {
		turn(&m)
	}
	return m
}

// encodables: ordinary manifests, and the edges of what is encodable; some have configurations that are not valid.
func encodables() []api.Manifest {
	return []api.Manifest{
		first(), next(first()), sealed(secret(), next(first())), some(), full(),
		{Version: 1, Trial: 1}, {Version: mostVersion, Trial: mostTrial},
		{Version: 1, Trial: mostTrial, Config: plain(2)}, {Version: mostVersion, Trial: 1, Config: plain(0)},
		{Version: 255, Trial: 1, Tag: api.Tag{31: 1}}, {Version: 256, Trial: 2, Prev: api.Tag{1}},
		{Version: 1 << 32, Trial: 1, Config: api.Config{Windows: make([]api.Window, 12), Parts: make([]api.Partition, 6), Channels: make([]api.Channel, 8)}},
		{Version: 2, Trial: 1, Config: api.Config{Parts: []api.Partition{{Keep: true}, {Image: make([]byte, 512)}}}},
	}
}

// others: manifests that are not encodable.
func others() []api.Manifest {
	return []api.Manifest{
		{}, {Version: 1}, {Trial: 1}, with(first(), func(m *api.Manifest) { m.Version = 0 }),
		with(first(), func(m *api.Manifest) { m.Version = -1 }),
		with(first(), func(m *api.Manifest) { m.Version = mostVersion + 1 }),
		with(first(), func(m *api.Manifest) { m.Trial = 0 }),
		with(first(), func(m *api.Manifest) { m.Trial = -1 }),
		with(first(), func(m *api.Manifest) { m.Trial = mostTrial + 1 }),
		with(full(), func(m *api.Manifest) { m.Version++ }),
		with(full(), func(m *api.Manifest) { m.Trial++ }),
		with(full(), func(m *api.Manifest) { m.Config.Windows = append(m.Config.Windows, api.Window{Len: 1}) }),
		with(full(), func(m *api.Manifest) { m.Config.Parts = append(m.Config.Parts, part(7, 0, 16, true)) }),
		with(full(), func(m *api.Manifest) { m.Config.Channels = append(m.Config.Channels, api.Channel{ID: 9}) }),
		with(full(), func(m *api.Manifest) { m.Config.Parts[5].Image = make([]byte, 513) }),
		with(first(), func(m *api.Manifest) { m.Config.Parts[0].Image = make([]byte, 513) }),
	}
}

// turns: ways to change one thing of a manifest, each field once and more; it has at least two windows, partitions and channels, and an image of two bytes in its first partition.
func turns() []func(m *api.Manifest) {
	l := []func(m *api.Manifest){
		func(m *api.Manifest) { m.Version++ },
		func(m *api.Manifest) { m.Version-- },
		func(m *api.Manifest) { m.Trial++ },
		func(m *api.Manifest) { m.Trial-- },
		func(m *api.Manifest) { m.Version, m.Trial = m.Trial, m.Version },
		func(m *api.Manifest) { m.Prev, m.Tag = m.Tag, m.Prev },
		func(m *api.Manifest) { m.Prev = api.Tag{} },
		func(m *api.Manifest) { m.Tag = api.Tag{} },
		func(m *api.Manifest) { m.Config = api.Config{} },
		func(m *api.Manifest) { m.Config.Windows = m.Config.Windows[1:] },
		func(m *api.Manifest) { m.Config.Windows = append(m.Config.Windows, api.Window{}) },
		func(m *api.Manifest) { slices.Reverse(m.Config.Windows) },
		func(m *api.Manifest) { m.Config.Parts = m.Config.Parts[:1] },
		func(m *api.Manifest) { slices.Reverse(m.Config.Parts) },
		func(m *api.Manifest) { m.Config.Parts[0].Keep = !m.Config.Parts[0].Keep },
		func(m *api.Manifest) { m.Config.Parts[1].Keep = !m.Config.Parts[1].Keep },
		func(m *api.Manifest) { m.Config.Parts[0].Image[0] ^= 1 },
		func(m *api.Manifest) { m.Config.Parts[0].Image[1] ^= 0x80 },
		func(m *api.Manifest) { m.Config.Parts[0].Image = m.Config.Parts[0].Image[:1] },
		func(m *api.Manifest) { m.Config.Parts[0].Image = append(m.Config.Parts[0].Image, 0) },
		func(m *api.Manifest) { m.Config.Parts[0].Image = nil },
		func(m *api.Manifest) { m.Config.Channels = nil },
		func(m *api.Manifest) { m.Config.Channels = m.Config.Channels[1:] },
		func(m *api.Manifest) { slices.Reverse(m.Config.Channels) },
	}
	for i := range 32 {
		l = append(l, func(m *api.Manifest) { m.Prev[i] ^= 1 << (i % 8) }, func(m *api.Manifest) { m.Tag[i] ^= 1 << (i % 8) })
	}
	shape := some()
	for i := range numbers(&shape.Config) {
		l = append(l, func(m *api.Manifest) { *numbers(&m.Config)[i]++ })
	}
	return l
}

// numbers returns the places of all numbers of c.
func numbers(c *api.Config) []*int {
	var l []*int
	for i := range c.Windows {
		x := &c.Windows[i]
		l = append(l, &x.Len, &x.Part)
	}
	for i := range c.Parts {
		x := &c.Parts[i]
		l = append(l, &x.ID, &x.Region.Base, &x.Region.Size)
	}
	for i := range c.Channels {
		x := &c.Channels[i]
		l = append(l, &x.ID, &x.From, &x.To, &x.Cap, &x.Size)
	}
	return l
}

// told returns a text that two manifests share if and only if they are the same.
func told(m api.Manifest) string { return fmt.Sprintf("%v", m) }

// none reports whether m is the zero manifest, with nil lists.
func none(m api.Manifest) bool {
	c := m.Config
	return m.Version == 0 && m.Prev == api.Tag{} && m.Trial == 0 && m.Tag == api.Tag{} && c.Windows == nil && c.Parts == nil && c.Channels == nil
}

// checked holds Check to want, and to the manifest m where that is OK.
func checked(t *testing.T, key []byte, running api.Manifest, b []byte, m api.Manifest, want api.Errno) {
	t.Helper()
	got, e := manifest.Check(key, running, b)
	if e != want {
		t.Errorf("Check(%.70q, %.200s, %.200x) = %d, want %d", key, told(running), b, e, want)
	}
	if want == api.OK && told(got) != told(m) || want != api.OK && !none(got) {
		t.Errorf("Check(%.70q, %.200s, %.200x) = %.300s beside %d", key, told(running), b, told(got), e)
	}
}

// judged holds Check of the encoding of m to the definition, and returns the error.
func judged(t *testing.T, key []byte, running, m api.Manifest) api.Errno {
	t.Helper()
	want := errnoOf(key, running, m)
	checked(t, key, running, encoding(m), m, want)
	return want
}
