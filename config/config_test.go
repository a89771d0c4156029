package config_test

import (
	"bytes"
	"encoding/binary"
	"fmt"
	"math"
	"slices"
	"testing"

	"citadel/api"
	"citadel/config"
)

// The limits, as the chapter has them.
const (
	mostWindows  = 12
	mostParts    = 6
	mostChannels = 8
	mostImage    = 512
)

// one: the chapter's second example.
func one() api.Config {
	return api.Config{
		Windows: []api.Window{{Len: 3, Part: 1}},
		Parts:   []api.Partition{{ID: 1, Region: api.Region{Base: 16, Size: 32}, Keep: true, Image: []byte{1, 2}}},
	}
}

// some: a configuration with a few of everything.
func some() api.Config {
	return api.Config{
		Windows: []api.Window{{Len: 3, Part: 1}, {Len: 2}, {Len: 3, Part: 2}, {Len: 1, Part: 4}},
		Parts: []api.Partition{
			{ID: 1, Region: api.Region{Base: 16, Size: 32}, Keep: true, Image: []byte{1, 2}},
			{ID: 2, Region: api.Region{Base: 64, Size: 16}},
			{ID: 4, Region: api.Region{Base: 1024, Size: 512}, Keep: true, Image: mixed(512, 4)},
		},
		Channels: []api.Channel{{ID: 1, From: 1, To: 2, Cap: 3, Size: 4}, {ID: 7, From: 4, To: 1, Cap: 4, Size: 16}},
	}
}

// sized returns a configuration with so many windows, partitions and channels, no two of which are the same.
func sized(windows, parts, channels int) api.Config {
	var c api.Config
	for i := range windows {
		c.Windows = append(c.Windows, api.Window{Len: i + 1, Part: 100 + i})
	}
	for i := range parts {
		c.Parts = append(c.Parts, api.Partition{ID: i + 1, Region: api.Region{Base: 200 + i, Size: 300 + i}, Keep: i%2 == 1, Image: mixed(i, uint32(i))})
	}
	for i := range channels {
		c.Channels = append(c.Channels, api.Channel{ID: i + 1, From: 400 + i, To: 500 + i, Cap: 600 + i, Size: 700 + i})
	}
	return c
}

// imaged returns a configuration whose partitions have images of these sizes.
func imaged(sizes ...int) api.Config {
	var c api.Config
	for i, n := range sizes {
		c.Parts = append(c.Parts, api.Partition{ID: i + 1, Image: mixed(n, uint32(i))})
	}
	return c
}

// mixed returns n bytes without a plain pattern, others for another start.
func mixed(n int, start uint32) []byte {
	b := make([]byte, n)
	x := start*2654435761 + 12345
	for i := range b {
		x = x*1664525 + 1013904223
		b[i] = byte(x >> 24)
	}
	return b
}

// greatest: numbers at their least and at their greatest, and those that wrap in fewer bits.
func greatest() []int {
	return []int{math.MinInt, math.MinInt + 1, math.MinInt32, -256, -1, 0, 1, 255, 256, math.MaxInt32, math.MaxUint32, math.MaxUint32 + 1, math.MaxUint32 + 2, math.MaxInt - 1, math.MaxInt}
}

// numbers returns the places of all numbers of c.
func numbers(c *api.Config) []*int {
	var l []*int
	for i := range c.Windows {
		x := &c.Windows[i]
		l = append(l, &x.Len, &x.Part)
	}
	for i := range c.Parts {
		x := &c.Parts[i]
		l = append(l, &x.ID, &x.Region.Base, &x.Region.Size)
	}
	for i := range c.Channels {
		x := &c.Channels[i]
		l = append(l, &x.ID, &x.From, &x.To, &x.Cap, &x.Size)
	}
	return l
}

// extremes: configurations one number of which is at its least or at its greatest, and those of which all are.
func extremes() []api.Config {
	var l []api.Config
	for _, x := range greatest() {
		for i := range numbers(ref(some())) {
			c := some()
			*numbers(&c)[i] = x
			l = append(l, c)
		}
		c := some()
		for _, n := range numbers(&c) {
			*n = x
		}
		l = append(l, c)
	}
	return l
}

func ref(c api.Config) *api.Config { return &c }

// encodables: ordinary configurations, and the edges of what is encodable.
func encodables() []api.Config {
	l := []api.Config{{}, one(), some(), {Windows: []api.Window{{}}}, {Parts: []api.Partition{{}}}, {Channels: []api.Channel{{}}},
		{Windows: make([]api.Window, 12), Parts: make([]api.Partition, 6), Channels: make([]api.Channel, 8)},
		imaged(0), imaged(1), imaged(511), imaged(512), imaged(512, 512, 512, 512, 512, 512), imaged(0, 512, 0, 1, 0), {Parts: []api.Partition{{Keep: true}, {Image: make([]byte, 512)}}}}
	for _, n := range []int{0, 1, 2, 11, 12} {
		for _, m := range []int{0, 1, 5, 6} {
			for _, k := range []int{0, 1, 7, 8} {
				l = append(l, sized(n, m, k))
			}
		}
	}
	return l
}

// others: configurations that are not encodable.
func others() []api.Config {
	l := []api.Config{sized(13, 0, 0), sized(0, 7, 0), sized(0, 0, 9), sized(13, 7, 9), sized(13, 6, 8), sized(12, 7, 8), sized(12, 6, 9), sized(100, 1, 1), sized(1, 100, 1), sized(1, 1, 100),
		{Windows: make([]api.Window, 13)}, {Parts: make([]api.Partition, 7)}, {Channels: make([]api.Channel, 9)}, imaged(513), imaged(514), imaged(1024), imaged(65536), imaged(65537), imaged(0, 0, 0, 0, 0, 0, 0)}
	for i := range mostParts {
		sizes := []int{512, 0, 512, 1, 512, 512}
		sizes[i] = 513
		l = append(l, imaged(sizes...), imaged(sizes[:i+1]...))
	}
	return l
}

func inputs() []api.Config { return slices.Concat(encodables(), others(), extremes()) }

// isEncodable: the chapter's definition.
func isEncodable(c api.Config) bool {
	for _, p := range c.Parts {
		if len(p.Image) > mostImage {
			return false
		}
	}
	return len(c.Windows) <= mostWindows && len(c.Parts) <= mostParts && len(c.Channels) <= mostChannels
}

// form: the chapter's encoding, of any configuration.
func form(c api.Config) []byte {
	var b []byte
	add := func(l ...int) {
		for _, n := range l {
			b = binary.BigEndian.AppendUint64(b, uint64(n))
		}
	}
	add(len(c.Windows))
	for _, x := range c.Windows {
		add(x.Len, x.Part)
	}
	add(len(c.Parts))
	for _, p := range c.Parts {
		add(p.ID, p.Region.Base, p.Region.Size)
		keep := byte(0)
		if p.Keep {
			keep = 1
		}
		b = append(b, keep)
		b = binary.BigEndian.AppendUint32(b, uint32(len(p.Image)))
		b = append(b, p.Image...)
	}
	add(len(c.Channels))
	for _, x := range c.Channels {
		add(x.ID, x.From, x.To, x.Cap, x.Size)
	}
	return b
}

// told returns a text that two configurations share if and only if they are the same.
func told(c api.Config) string { return fmt.Sprintf("%v", c) }

func can(t *testing.T, c api.Config, want bool) {
	t.Helper()
	if got := config.Can(c); got != want {
		t.Errorf("Can(%.300s) = %v", told(c), got)
	}
}

func printed(t *testing.T, c api.Config, want []byte) {
	t.Helper()
	if got, e := config.Print(c); !bytes.Equal(got, want) || e != api.OK {
		t.Errorf("Print(%.300s) = %v, %d, want %v", told(c), got, e, want)
	}
}

func notPrinted(t *testing.T, c api.Config) {
	t.Helper()
	if got, e := config.Print(c); got != nil || e != api.ErrArg {
		t.Errorf("Print(%.300s) = %.300v, %d, want nil, ErrArg", told(c), got, e)
	}
}

// P11.1 (Can, Print): how many windows, partitions and channels there may be.
func TestCounts(t *testing.T) {
	for windows := range 15 {
		for parts := range 9 {
			for channels := range 11 {
				c := sized(windows, parts, channels)
				may := windows <= 12 && parts <= 6 && channels <= 8
				can(t, c, may)
				if may {
					printed(t, c, form(c))
				} else {
					notPrinted(t, c)
				}
			}
		}
	}
}

// P11.1 (Can, Print): how long an image may be, whichever partition's it is.
func TestImages(t *testing.T) {
	for count := 1; count <= mostParts; count++ {
		for at := range count {
			for _, n := range []int{0, 1, 2, 255, 256, 511, 512, 513, 514, 1024, 65535, 65536} {
				for _, other := range []int{0, 512} {
					sizes := slices.Repeat([]int{other}, count)
					sizes[at] = n
					c := imaged(sizes...)
					can(t, c, n <= 512)
					if n <= 512 {
						printed(t, c, form(c))
					} else {
						notPrinted(t, c)
					}
				}
			}
		}
	}
}

// P11.1 (Can): ordinary configurations, and the edges.
func TestCan(t *testing.T) {
	for _, c := range encodables() {
		can(t, c, true)
	}
	for _, c := range others() {
		can(t, c, false)
	}
}

// P11.1 (Can, Print): nothing but the counts and the images counts, whatever the numbers are.
func TestAnyNumbers(t *testing.T) {
	for _, c := range extremes() {
		can(t, c, true)
		printed(t, c, form(c))
	}
}

// P11.1 (Print): the examples, byte by byte.
func TestPrintExamples(t *testing.T) {
	printed(t, api.Config{}, make([]byte, 24))
	printed(t, one(), []byte{
		0, 0, 0, 0, 0, 0, 0, 1,
		0, 0, 0, 0, 0, 0, 0, 3, 0, 0, 0, 0, 0, 0, 0, 1,
		0, 0, 0, 0, 0, 0, 0, 1,
		0, 0, 0, 0, 0, 0, 0, 1, 0, 0, 0, 0, 0, 0, 0, 16, 0, 0, 0, 0, 0, 0, 0, 32, 1, 0, 0, 0, 2, 1, 2,
		0, 0, 0, 0, 0, 0, 0, 0,
	})
	if got, e := config.Print(one()); len(got) != 71 || e != api.OK {
		t.Errorf("%d bytes, %d", len(got), e)
	}
}

// P11.1 (Print): a channel's five numbers and a flag that is not set, byte by byte.
func TestPrintChannel(t *testing.T) {
	c := api.Config{Parts: []api.Partition{{ID: -2, Region: api.Region{Base: 258, Size: 3}}}, Channels: []api.Channel{{ID: 5, From: 6, To: 7, Cap: 8, Size: 9}}}
	printed(t, c, []byte{
		0, 0, 0, 0, 0, 0, 0, 0,
		0, 0, 0, 0, 0, 0, 0, 1,
		255, 255, 255, 255, 255, 255, 255, 254, 0, 0, 0, 0, 0, 0, 1, 2, 0, 0, 0, 0, 0, 0, 0, 3, 0, 0, 0, 0, 0,
		0, 0, 0, 0, 0, 0, 0, 1,
		0, 0, 0, 0, 0, 0, 0, 5, 0, 0, 0, 0, 0, 0, 0, 6, 0, 0, 0, 0, 0, 0, 0, 7, 0, 0, 0, 0, 0, 0, 0, 8, 0, 0, 0, 0, 0, 0, 0, 9,
	})
}

// P11.1 (Print): the encoding of every encodable configuration.
func TestPrint(t *testing.T) {
	for _, c := range encodables() {
		printed(t, c, form(c))
	}
}

// P11.1 (Print): what is not encodable is refused.
func TestPrintRefuses(t *testing.T) {
	for _, c := range others() {
		notPrinted(t, c)
	}
}
