package config_test

import (
	"encoding/binary"
	"math"
	"slices"
	"testing"

	"citadel/api"
	"citadel/config"
)

func parsed(t *testing.T, b []byte, want api.Config) {
	t.Helper()
	if got, e := config.Parse(b); told(got) != told(want) || e != api.OK {
		t.Errorf("Parse(%.300v) = %.300s, %d, want %.300s", b, told(got), e, told(want))
	}
}

func notParsed(t *testing.T, b []byte) {
	t.Helper()
	got, e := config.Parse(b)
	if got.Windows != nil || got.Parts != nil || got.Channels != nil || e != api.ErrConfig {
		t.Errorf("Parse(%.300v) = %.300s, %d, want the zero configuration, ErrConfig", b, told(got), e)
	}
}

// A cut removes fields from the front of bytes, as the chapters of wire and config have them; bad once there is no such field.
type cut struct {
	rest []byte
	bad  bool
}

func (c *cut) take(n int) []byte {
	if c.bad || n > len(c.rest) {
		c.bad = true
		return make([]byte, min(n, 8))
	}
	b := c.rest[:n]
	c.rest = c.rest[n:]
	return b
}

func (c *cut) number() int { return int(binary.BigEndian.Uint64(c.take(8))) }

func (c *cut) count(most int) int {
	n := c.number()
	if n < 0 || n > most {
		c.bad = true
		return 0
	}
	return n
}

func (c *cut) part() api.Partition {
	p := api.Partition{ID: c.number()}
	p.Region.Base = c.number()
	p.Region.Size = c.number()
	keep := c.take(1)[0]
	c.bad = c.bad || keep > 1
	p.Keep = keep == 1
	size := int(binary.BigEndian.Uint32(c.take(4)))
	c.bad = c.bad || size > mostImage
	p.Image = c.take(size)
	return p
}

// read returns the configuration whose encoding is b; false if there is none.
func read(b []byte) (api.Config, bool) {
	c := &cut{rest: b}
	var got api.Config
	for range c.count(mostWindows) {
		x := api.Window{Len: c.number()}
		x.Part = c.number()
		got.Windows = append(got.Windows, x)
	}
	for range c.count(mostParts) {
		got.Parts = append(got.Parts, c.part())
	}
	for range c.count(mostChannels) {
		var x api.Channel
		for _, n := range []*int{&x.ID, &x.From, &x.To, &x.Cap, &x.Size} {
			*n = c.number()
		}
		got.Channels = append(got.Channels, x)
	}
	if c.bad || len(c.rest) > 0 {
		return api.Config{}, false
	}
	return got, true
}

// held holds Parse to read.
func held(t *testing.T, b []byte) bool {
	t.Helper()
	want, ok := read(b)
	if ok {
		parsed(t, b, want)
	} else {
		notParsed(t, b)
	}
	return ok
}

// P11.2 (Parse): the encodings of all kinds of encodable configurations.
func TestParse(t *testing.T) {
	for _, c := range slices.Concat(encodables(), extremes()) {
		parsed(t, form(c), c)
	}
}

// P11.2 (Parse): no bytes at all.
func TestParseNone(t *testing.T) {
	notParsed(t, nil)
	notParsed(t, []byte{})
	notParsed(t, make([]byte, 40)[:0])
	parsed(t, make([]byte, 24), api.Config{})
}

// P11.2 (Parse): each beginning of an encoding.
func TestParseCut(t *testing.T) {
	for _, c := range []api.Config{{}, one(), some(), sized(12, 6, 8), imaged(0, 3)} {
		b := form(c)
		for n := range b {
			notParsed(t, b[:n])
			notParsed(t, b[n+1:])
		}
		parsed(t, b, c)
	}
}

// P11.2 (Parse): one more byte, and more of them, behind an encoding or ahead of it.
func TestParseMore(t *testing.T) {
	for _, c := range encodables() {
		b := form(c)
		for _, more := range [][]byte{{0}, {1}, {255}, make([]byte, 8), make([]byte, 24), b, make([]byte, 65536)} {
			notParsed(t, slices.Concat(b, more))
		}
		for _, x := range []byte{1, 255} {
			notParsed(t, append([]byte{x}, b...))
		}
	}
}

// P11.2 (Parse): encodings of what is not encodable.
func TestParseTooMuch(t *testing.T) {
	for _, c := range others() {
		notParsed(t, form(c))
	}
}

// countsAt returns where the three counts of the encoding of c stand.
func countsAt(c api.Config) []int {
	parts := api.Config{Windows: c.Windows, Parts: c.Parts}
	return []int{0, len(form(api.Config{Windows: c.Windows})) - 16, len(form(parts)) - 8}
}

// P11.2 (Parse): a count of windows, of partitions or of channels that is too great, negative, or not that of what follows.
func TestParseCounts(t *testing.T) {
	ok := 0
	for _, c := range []api.Config{{}, one(), some(), sized(12, 6, 8), sized(1, 1, 1)} {
		for i, at := range countsAt(c) {
			real := []int{len(c.Windows), len(c.Parts), len(c.Channels)}[i]
			if n := binary.BigEndian.Uint64(form(c)[at:]); n != uint64(real) {
				t.Fatalf("count %d of %s stands elsewhere: %d", i, told(c), n)
			}
			for _, n := range append(greatest(), -2, -real, real-1, real, real+1, 6, 7, 8, 9, 10, 12, 13, 14, 1<<32+real, math.MinInt+real) {
				b := form(c)
				binary.BigEndian.PutUint64(b[at:], uint64(n))
				if n == real {
					parsed(t, b, c)
					ok++
				} else {
					notParsed(t, b)
				}
				// So that a count that is believed finds enough bytes.
				held(t, append(b, make([]byte, 16*1024)...))
			}
		}
	}
	if ok < 15 {
		t.Errorf("%d counts were those of what follows", ok)
	}
}

// P11.2 (Parse): so many windows, partitions and channels as may be, and one more, of zero bytes each.
func TestParseZeroItems(t *testing.T) {
	count := func(n int) []byte { return binary.BigEndian.AppendUint64(nil, uint64(n)) }
	for _, n := range []int{-1, 0, 1, 5, 6, 7, 8, 9, 11, 12, 13} {
		windows := slices.Concat(count(n), make([]byte, 16*max(n, 0)), make([]byte, 16))
		parts := slices.Concat(make([]byte, 8), count(n), make([]byte, 29*max(n, 0)), make([]byte, 8))
		channels := slices.Concat(make([]byte, 16), count(n), make([]byte, 40*max(n, 0)))
		for i, b := range [][]byte{windows, parts, channels} {
			if got := held(t, b); got != (n >= 0 && n <= []int{12, 6, 8}[i]) {
				t.Errorf("count %d of %d: %v", i, n, got)
			}
		}
	}
}

// flagsAt returns where the flags of the encoding of c stand.
func flagsAt(c api.Config) []int {
	at := len(form(api.Config{Windows: c.Windows})) - 8
	var l []int
	for _, p := range c.Parts {
		l = append(l, at+24)
		at += 29 + len(p.Image)
	}
	return l
}

// P11.2 (Parse): a flag is 0 or 1.
func TestParseFlag(t *testing.T) {
	for _, c := range []api.Config{one(), some(), sized(3, 6, 2)} {
		for i, at := range flagsAt(c) {
			for x := range 256 {
				b := form(c)
				b[at] = byte(x)
				if x > 1 {
					notParsed(t, b)
					continue
				}
				want, _ := read(form(c))
				want.Parts[i].Keep = x == 1
				parsed(t, b, want)
			}
		}
	}
}

// P11.2 (Parse): the length of an image is that of what follows, and at most 512, however many bytes are left.
func TestParseImageLength(t *testing.T) {
	for _, n := range []int{0, 1, 2, 511, 512, 513, 514} {
		c := imaged(n)
		if got := held(t, form(c)); got != (n <= 512) {
			t.Errorf("an image of %d bytes: %v", n, got)
		}
	}
	for _, c := range []api.Config{one(), some(), sized(3, 6, 2), imaged(512)} {
		for i, at := range flagsAt(c) {
			real := len(c.Parts[i].Image)
			for _, n := range []int{0, real - 1, real + 1, real + 2, 511, 512, 513, 65535, 65536, 65537, math.MaxInt32, math.MaxInt32 + 1, math.MaxUint32} {
				if n == real || n < 0 {
					continue
				}
				b := form(c)
				binary.BigEndian.PutUint32(b[at+1:], uint32(n))
				held(t, b)
				if n > 512 {
					notParsed(t, b)
					notParsed(t, append(b, make([]byte, 2000)...))
				}
			}
		}
	}
}

// P11.2 (Parse): an image that takes all the bytes that are left, and one that would take one more.
func TestParseImageToTheEnd(t *testing.T) {
	b := form(imaged(40))
	at := flagsAt(imaged(40))[0] + 1
	for _, n := range []int{39, 41, 47, 48, 49} {
		binary.BigEndian.PutUint32(b[at:], uint32(n))
		notParsed(t, b)
	}
	binary.BigEndian.PutUint32(b[at:], 48)
	// Behind the longer image there is a count again.
	if !held(t, append(b, make([]byte, 8)...)) {
		t.Error("an image of 48 bytes is refused")
	}
}

// P11.2 (Parse): more bytes than an encoding may have.
func TestParseLong(t *testing.T) {
	for _, n := range []int{3783, 65535, 65536, 65537, 1 << 20} {
		notParsed(t, make([]byte, n))
		notParsed(t, append(form(some()), make([]byte, n)...))
	}
	if b := form(imaged(512, 512, 512, 512, 512, 512)); !held(t, b) {
		t.Errorf("%d bytes of images are refused", len(b))
	}
	longest := sized(12, 6, 8)
	for i := range longest.Parts {
		longest.Parts[i].Image = mixed(512, uint32(i))
	}
	if b := form(longest); len(b) != 3782 || !held(t, b) {
		t.Errorf("the longest encoding, of %d bytes, is refused", len(b))
	}
}

// P11.2 (Parse): every byte of an encoding, changed.
func TestParseChanged(t *testing.T) {
	got := map[bool]int{}
	for _, c := range []api.Config{{}, one(), some(), sized(2, 3, 2)} {
		b := form(c)
		for i := range b {
			for _, x := range []byte{1, 2, 0x80, 0xff} {
				b[i] ^= x
				got[held(t, b)]++
				b[i] ^= x
			}
		}
	}
	if got[true] < 1000 || got[false] < 100 {
		t.Errorf("encodings, and others: %v", got)
	}
}
