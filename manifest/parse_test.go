package manifest_test

import (
	"encoding/binary"
	"math"
	"slices"
	"testing"

	"citadel/api"
	"citadel/manifest"
)

func parsed(t *testing.T, b []byte, want api.Manifest) {
	t.Helper()
	if got, e := manifest.Parse(b); told(got) != told(want) || e != api.OK {
		t.Errorf("Parse(%.300x) = %.300s, %d, want %.300s", b, told(got), e, told(want))
	}
}

// notParsed holds Parse to its error, and Check as well.
func notParsed(t *testing.T, b []byte) {
	t.Helper()
	if got, e := manifest.Parse(b); !none(got) || e != api.ErrManifest {
		t.Errorf("Parse(%.300x) = %.300s, %d, want the zero manifest, ErrManifest", b, told(got), e)
	}
	checked(t, secret(), first(), b, api.Manifest{}, api.ErrManifest)
}

// A cut removes fields from the front of bytes, as the chapters of wire, config and manifest have them; bad once there is no such field.
type cut struct {
	rest []byte
	bad  bool
}

func (c *cut) take(n int) []byte {
	if c.bad || n > len(c.rest) {
		c.bad = true
		return make([]byte, min(n, 32))
	}
	b := c.rest[:n]
	c.rest = c.rest[n:]
	return b
}

func (c *cut) number() int { return int(binary.BigEndian.Uint64(c.take(8))) }

func (c *cut) tag() api.Tag { return api.Tag(c.take(32)) }

func (c *cut) count(most int) int {
	n := c.number()
	if n < 0 || n > most {
		c.bad = true
		return 0
	}
	return n
}

func (c *cut) bytes() []byte { return c.take(int(binary.BigEndian.Uint32(c.take(4)))) }

func (c *cut) config() api.Config {
	var got api.Config
	for range c.count(mostWindows) {
		x := api.Window{Len: c.number()}
		x.Part = c.number()
		got.Windows = append(got.Windows, x)
	}
	for range c.count(mostParts) {
		p := api.Partition{ID: c.number()}
		p.Region.Base = c.number()
		p.Region.Size = c.number()
		keep := c.take(1)[0]
		p.Keep, p.Image = keep == 1, c.bytes()
		c.bad = c.bad || keep > 1 || len(p.Image) > mostImage
		got.Parts = append(got.Parts, p)
	}
	for range c.count(mostChannels) {
		var x api.Channel
		for _, n := range []*int{&x.ID, &x.From, &x.To, &x.Cap, &x.Size} {
			*n = c.number()
		}
		got.Channels = append(got.Channels, x)
	}
	return got
}

// read returns the encodable manifest whose encoding is b; false if there is none.
func read(b []byte) (api.Manifest, bool) {
	c := &cut{rest: b}
	m := api.Manifest{Version: c.number()}
	m.Prev = c.tag()
	m.Trial = c.number()
	inner := &cut{rest: c.bytes()}
	m.Config = inner.config()
	m.Tag = c.tag()
	if c.bad || inner.bad || len(c.rest) > 0 || len(inner.rest) > 0 || !isEncodable(m) {
		return api.Manifest{}, false
	}
	return m, true
}

// held holds Parse to read.
func held(t *testing.T, b []byte) bool {
	t.Helper()
	want, ok := read(b)
	if ok {
		parsed(t, b, want)
	} else {
		notParsed(t, b)
	}
	return ok
}

// P14.1 (Parse): the encodings of all kinds of encodable manifests, sealed or not, their configurations valid or not.
func TestParse(t *testing.T) {
	for _, m := range encodables() {
		parsed(t, encoding(m), m)
	}
	for _, turn := range turns() {
		m := with(some(), turn)
		parsed(t, encoding(m), m)
	}
}

// P14.1 (Parse): no bytes at all.
func TestParseNone(t *testing.T) {
	notParsed(t, nil)
	notParsed(t, []byte{})
	notParsed(t, make([]byte, 40)[:0])
}

// P14.1 (Parse): each beginning of an encoding, and each end.
func TestParseCut(t *testing.T) {
	for _, m := range []api.Manifest{first(), some(), {Version: 1, Trial: 1}} {
		b := encoding(m)
		for n := range b {
			notParsed(t, b[:n])
			notParsed(t, b[n+1:])
		}
		parsed(t, b, m)
	}
}

// P14.1 (Parse): bytes behind an encoding, or ahead of it.
func TestParseMore(t *testing.T) {
	for _, m := range encodables() {
		b := encoding(m)
		for _, more := range [][]byte{{0}, {1}, {255}, make([]byte, 8), make([]byte, 32), b, make([]byte, 65536)} {
			notParsed(t, slices.Concat(b, more))
		}
		for _, x := range []byte{1, 255} {
			notParsed(t, append([]byte{x}, b...))
		}
	}
}

// P14.1 (Parse): encodings of what is not encodable.
func TestParseTooMuch(t *testing.T) {
	for _, m := range others() {
		notParsed(t, encoding(m))
		notParsed(t, encoding(sealed(secret(), m)))
	}
}

// P14.1 (Parse): the versions and the trials, their least and greatest ones among them.
func TestParseNumbers(t *testing.T) {
	numbers := []int{math.MinInt, math.MinInt + 1, -1 << 40, -1, 0, 1, 2, 7, 8, 9, 255, 256, 257, 1 << 32, 1<<32 + 1, 1<<40 - 1, 1 << 40, 1<<40 + 1, math.MaxInt - 1, math.MaxInt}
	for _, version := range numbers {
		for _, trial := range numbers {
			m := with(first(), func(m *api.Manifest) { m.Version, m.Trial = version, trial })
			if got := held(t, encoding(m)); got != (version >= 1 && version <= 1<<40 && trial >= 1 && trial <= 8) {
				t.Errorf("version %d, trial %d: %v", version, trial, got)
			}
		}
	}
}

// around returns an encoding with these bytes in the place of a configuration's, correctly sealed.
func around(c []byte) []byte {
	m := next(first())
	part := signedAround(m, c)
	tag := tagOf(secret(), part)
	return append(part, tag[:]...)
}

// P14.1 (Parse): bytes in the place of the configuration's that are no configuration's encoding, within an encoding whose tag is correct for them.
func TestParseNoConfiguration(t *testing.T) {
	for _, m := range encodables() {
		c := form(m.Config)
		if !held(t, around(c)) {
			t.Errorf("a configuration is refused: %.200x", c)
		}
		for _, b := range [][]byte{nil, c[:len(c)-1], c[1:], c[:8], append(slices.Clone(c), 0), append(slices.Clone(c), c...), append([]byte{0}, c...)} {
			notParsed(t, around(b))
		}
	}
	for _, m := range others()[11:] {
		notParsed(t, around(form(m.Config)))
	}
	for n := range 60 {
		if held(t, around(make([]byte, n))) != (n == 24) {
			t.Errorf("%d zero bytes as a configuration", n)
		}
	}
	for _, n := range []int{3783, 4000, 65536 - 84, 65536 - 83, 65536, 70000} {
		notParsed(t, around(make([]byte, n)))
	}
}

// P14.1 (Parse): a length of the configuration's bytes that is not theirs.
func TestParseLength(t *testing.T) {
	for _, m := range []api.Manifest{first(), some(), {Version: 1, Trial: 1}} {
		real := len(form(m.Config))
		for _, n := range []int{0, 1, 8, 24, real - 32, real - 1, real + 1, real + 31, real + 32, real + 33, 65535, 65536, 65537, math.MaxInt32, math.MaxInt32 + 1, math.MaxUint32} {
			if n == real || n < 0 {
				continue
			}
			b := encoding(m)
			binary.BigEndian.PutUint32(b[48:], uint32(n))
			notParsed(t, b)
			held(t, append(b, make([]byte, 65537-len(b))...))
			held(t, append(b, make([]byte, 32)...))
		}
	}
}

// P14.1 (Parse): every byte of an encoding, changed.
func TestParseChanged(t *testing.T) {
	got := map[bool]int{}
	for _, m := range []api.Manifest{first(), some(), based(), {Version: 1, Trial: 1}} {
		b := encoding(m)
		for i := range b {
			for _, x := range []byte{1, 2, 0x80, 0xff} {
				b[i] ^= x
				got[held(t, b)]++
				b[i] ^= x
			}
		}
	}
	if got[true] < 1000 || got[false] < 100 {
		t.Errorf("encodings, and others: %v", got)
	}
}
