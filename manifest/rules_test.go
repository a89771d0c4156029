package manifest_test

import (
	"fmt"
	"math"
	"slices"
	"testing"

	"citadel/api"
	"citadel/manifest"
)

// A call of manifest on a key and a manifest; what it returns is written down.
type call struct {
	name string
	do   func(key []byte, m api.Manifest) string
}

func calls() []call {
	update := encoding(sealed(secret(), next(first())))
	return []call{
		{"Can", func(key []byte, m api.Manifest) string { return fmt.Sprint(manifest.Can(m)) }},
		{"Print", func(key []byte, m api.Manifest) string {
			b, e := manifest.Print(m)
			return fmt.Sprint(b, int(e))
		}},
		{"Hash", func(key []byte, m api.Manifest) string { return fmt.Sprint(manifest.Hash(m)) }},
		{"Seal", func(key []byte, m api.Manifest) string { return told(manifest.Seal(key, m)) }},
		{"Right", func(key []byte, m api.Manifest) string { return fmt.Sprint(manifest.Right(key, m)) }},
		{"Same", func(key []byte, m api.Manifest) string {
			return fmt.Sprint(manifest.Same(m, some()), manifest.Same(first(), m), manifest.Same(m, m))
		}},
		{"Check", func(key []byte, m api.Manifest) string {
			got, e := manifest.Check(key, m, update)
			return told(got) + fmt.Sprint(int(e))
		}},
	}
}

func inputs() []api.Manifest { return slices.Concat(encodables(), others()) }

// P0.1, P0.2: every call returns, whatever it is given; beside an error stand zero values.
func TestAllArguments(t *testing.T) {
	for _, m := range inputs() {
		for _, key := range [][]byte{nil, {}, secret(), mixed(65, 1), make([]byte, 70000)} {
			allOf(t, key, m)
			for _, running := range inputs() {
				judged(t, key, running, m)
			}
			judged(t, key, m, sealed(key, next(m)))
		}
	}
}

// P0.1, P14.1 (Can), P14.2, P14.3: numbers at their least and at their greatest in each field of a configuration.
func TestExtremes(t *testing.T) {
	running := sealed(secret(), some())
	for _, x := range []int{math.MinInt, math.MinInt + 1, math.MinInt32, -1, math.MaxInt32, math.MaxUint32, math.MaxUint32 + 1, math.MaxInt - 1, math.MaxInt} {
		for i := range numbers(&running.Config) {
			m := sealed(secret(), with(next(running), func(m *api.Manifest) { *numbers(&m.Config)[i] = x }))
			allOf(t, secret(), m)
			parsed(t, encoding(m), m)
			if judged(t, secret(), running, m) == api.OK {
				t.Errorf("%d as number %d is accepted", x, i)
			}
			bad := sealed(secret(), with(running, func(m *api.Manifest) { *numbers(&m.Config)[i] = x }))
			good := sealed(secret(), with(next(bad), func(m *api.Manifest) { m.Config = running.Config }))
			if judged(t, secret(), bad, good) != api.ErrCompat {
				t.Errorf("%d as number %d is followed", x, i)
			}
		}
	}
}

// P0.1: bytes of one value, of all lengths up to some, and far more than an encoding may have.
func TestAllBytes(t *testing.T) {
	for _, x := range []byte{0, 1, 2, 0x7f, 0x80, 0xff} {
		for n := range 300 {
			notParsed(t, slices.Repeat([]byte{x}, n))
		}
		for _, n := range []int{3865, 3866, 3867, 65535, 65536, 65537, 1 << 20} {
			notParsed(t, slices.Repeat([]byte{x}, n))
		}
	}
}

// P0.1: lists and images far longer than a configuration may have.
func TestLong(t *testing.T) {
	const n = 1 << 16
	for _, turn := range []func(c *api.Config){
		func(c *api.Config) { c.Windows = make([]api.Window, n) },
		func(c *api.Config) { c.Parts = make([]api.Partition, n) },
		func(c *api.Config) { c.Channels = make([]api.Channel, n) },
		func(c *api.Config) { c.Parts[0].Image = make([]byte, 16*n) },
	} {
		m := some()
		turn(&m.Config)
		notPrinted(t, m)
		right(t, secret(), m, false)
		same(t, m, own(m), true)
		same(t, m, some(), false)
		if manifest.Can(m) || manifest.Hash(m) != (api.Tag{}) || !manifest.Same(manifest.Seal(secret(), m), m) {
			t.Error("a long list is no reason")
		}
		checked(t, secret(), m, encoding(sealed(secret(), next(first()))), api.Manifest{}, api.ErrChain)
		checked(t, secret(), m, encoding(sealed(secret(), api.Manifest{Version: 8, Trial: 1, Config: plain(1)})), api.Manifest{}, api.ErrCompat)
	}
}

// P0.3: calls, those that return an error among them, change nothing that later ones answer.
func TestNothingKept(t *testing.T) {
	update := encoding(sealed(secret(), next(first())))
	for _, m := range inputs() {
		for _, x := range calls() {
			if one, two := x.do(secret(), m), x.do(secret(), m); one != two {
				t.Errorf("%s(%.300s) = %.300s, then %.300s", x.name, told(m), one, two)
			}
		}
		manifest.Parse(encoding(m)[1:])
		manifest.Check([]byte("kez"), m, update)
		manifest.Check(secret(), m, encoding(m))
		checked(t, secret(), first(), update, sealed(secret(), next(first())), api.OK)
		allOf(t, secret(), some())
	}
}

// around4 returns b within longer memory, and that memory.
func around4(b []byte) (in, long []byte) {
	long = slices.Concat([]byte("####"), b, []byte("########"))
	return long[4 : 4+len(b)], long
}

// laid returns the manifest in longer memory of its own, and a text of all of that memory.
func laid(m api.Manifest) (in api.Manifest, text func() string) {
	c := m.Config
	list := slices.Clone(c.Parts)
	for i, p := range list {
		list[i].Image, _ = around4(p.Image)
	}
	windows := slices.Concat([]api.Window{{Len: -1}}, c.Windows, make([]api.Window, 20))
	list = slices.Concat([]api.Partition{part(0, 0, 4, true)}, list, full().Config.Parts)
	channels := slices.Concat([]api.Channel{{ID: 9}}, c.Channels, full().Config.Channels)
	m.Config = api.Config{Windows: windows[1 : 1+len(c.Windows)], Parts: list[1 : 1+len(c.Parts)], Channels: channels[1 : 1+len(c.Channels)]}
	return m, func() string {
		all := fmt.Sprint(windows, list, channels)
		for _, p := range m.Config.Parts {
			all += string(p.Image[:cap(p.Image)])
		}
		return all
	}
}

// P0.4: what is passed is not changed, nor is what lies beyond its length, which counts for nothing.
func TestArgumentsUnchanged(t *testing.T) {
	for _, m := range inputs() {
		in, text := laid(m)
		key, long := around4(secret())
		want := text()
		for _, x := range calls() {
			if got := x.do(key, in); got != x.do(secret(), m) {
				t.Errorf("%s(%.300s) depends on what lies beyond: %.300s", x.name, told(m), got)
			}
		}
		if text() != want || string(long) != "####key########" {
			t.Errorf("a call changed what was passed: %.300s", told(m))
		}
	}
}

// P0.4: Parse and Check neither change the bytes, nor those beyond their length, which count for nothing.
func TestBytesUnchanged(t *testing.T) {
	for _, m := range inputs() {
		for _, off := range []int{0, 1, 8} {
			b := encoding(m)
			in, long := around4(b[:len(b)-off])
			want := string(long)
			held(t, in)
			update, _ := around4(encoding(sealed(secret(), next(first()))))
			checked(t, secret(), first(), update, sealed(secret(), next(first())), api.OK)
			manifest.Check(secret(), m, in)
			if string(long) != want {
				t.Errorf("%.300x was changed", b)
			}
		}
	}
}

// scrawl writes over all memory of m, the capacity with it.
func scrawl(m api.Manifest) {
	c := m.Config
	for _, p := range c.Parts {
		scrawlBytes(p.Image)
	}
	for i := range c.Windows[:cap(c.Windows)] {
		c.Windows[:cap(c.Windows)][i] = api.Window{Len: -7, Part: -7}
	}
	for i := range c.Parts[:cap(c.Parts)] {
		c.Parts[:cap(c.Parts)][i] = api.Partition{ID: -7, Image: []byte("-7")}
	}
	for i := range c.Channels[:cap(c.Channels)] {
		c.Channels[:cap(c.Channels)][i] = api.Channel{ID: -7}
	}
}

func scrawlBytes(b []byte) {
	for i := range b[:cap(b)] {
		b[:cap(b)][i] = '-'
	}
}

// P0.4: what is passed is not kept: it may be written over, while what was returned stays.
func TestArgumentsNotKept(t *testing.T) {
	for _, m := range inputs() {
		in, _ := laid(m)
		key := secret()
		b, _ := manifest.Print(in)
		got := manifest.Seal(key, in)
		want := fmt.Sprint(b, got)
		scrawl(in)
		scrawlBytes(key)
		if fmt.Sprint(b, got) != want {
			t.Errorf("%.300s became %.300s", want, fmt.Sprint(b, got))
		}
		bytes := encoding(m)
		got, _ = manifest.Parse(bytes)
		want = told(got)
		scrawlBytes(bytes)
		if told(got) != want {
			t.Errorf("Parse: %.300s became %.300s", want, told(got))
		}
		allOf(t, secret(), m)
	}
}

// P0.4: what Check returns shares no memory with the bytes or with the running manifest.
func TestAcceptedIsNew(t *testing.T) {
	for _, start := range []api.Manifest{first(), based(), sealed(secret(), some())} {
		running, text := laid(start)
		before := text()
		m := sealed(secret(), next(start))
		b := encoding(m)
		one, e := manifest.Check(secret(), running, b)
		two, f := manifest.Check(secret(), running, b)
		if e != api.OK || f != api.OK {
			t.Fatal(e, f)
		}
		scrawl(one)
		if told(two) != told(m) || text() != before || string(b) != string(encoding(m)) {
			t.Errorf("an answer shares memory: %.300s", told(two))
		}
		scrawl(running)
		scrawlBytes(b)
		if told(two) != told(m) {
			t.Errorf("an argument was kept: %.300s", told(two))
		}
	}
}

// P0.4: what Print, Seal and Parse return is new memory, with its capacity, whether the manifest is encodable or not.
func TestAnswersAreNew(t *testing.T) {
	for _, m := range inputs() {
		in, text := laid(m)
		before := text()
		b, _ := manifest.Print(in)
		c, _ := manifest.Print(in)
		one, two := manifest.Seal(secret(), in), manifest.Seal(secret(), in)
		bytes := encoding(m)
		three, _ := manifest.Parse(bytes)
		four, _ := manifest.Parse(bytes)
		want := fmt.Sprint(c, two, four)
		scrawlBytes(b)
		scrawl(one)
		scrawl(three)
		if text() != before || fmt.Sprint(c, two, four) != want || string(bytes) != string(encoding(m)) {
			t.Errorf("the answers for %.300s share memory", told(m))
		}
	}
}

// P0.4: no two images of an answer share memory.
func TestImagesApart(t *testing.T) {
	m := full()
	for i := range m.Config.Parts {
		m.Config.Parts[i].Image = mixed(3*i, uint32(i))
	}
	b := encoding(sealed(secret(), with(m, func(m *api.Manifest) { m.Prev = hashOf(first()) })))
	for name, get := range map[string]func() api.Manifest{
		"Seal": func() api.Manifest { return manifest.Seal(secret(), m) },
		"Seal of one that is not encodable": func() api.Manifest {
			return manifest.Seal(secret(), with(m, func(m *api.Manifest) { m.Trial = 0 }))
		},
		"Parse": func() api.Manifest { got, _ := manifest.Parse(b); return got },
		"Check": func() api.Manifest {
			got, e := manifest.Check(secret(), first(), b)
			if e != api.OK {
				t.Error(e)
			}
			return got
		},
	} {
		for i := range m.Config.Parts {
			got := get()
			scrawlBytes(got.Config.Parts[i].Image)
			got.Config.Parts[i].Image = m.Config.Parts[i].Image
			if want := get(); told(got) != told(want) {
				t.Errorf("%s: image %d shares memory with another", name, i)
			}
		}
	}
}

// P0.4: nil and empty slices are equivalent: keys, bytes, lists and images.
func TestNilIsEmpty(t *testing.T) {
	for _, m := range inputs() {
		n, e := own(m), own(m)
		for i, p := range m.Config.Parts {
			if len(p.Image) == 0 {
				n.Config.Parts[i].Image, e.Config.Parts[i].Image = nil, make([]byte, 600)[:0]
			}
		}
		if len(m.Config.Windows) == 0 {
			n.Config.Windows, e.Config.Windows = nil, make([]api.Window, 3)[:0]
		}
		if len(m.Config.Parts) == 0 {
			n.Config.Parts, e.Config.Parts = nil, make([]api.Partition, 3)[:0]
		}
		if len(m.Config.Channels) == 0 {
			n.Config.Channels, e.Config.Channels = nil, make([]api.Channel, 3)[:0]
		}
		same(t, n, e, true)
		for _, x := range calls() {
			if x.do(secret(), n) != x.do(secret(), e) || x.do(nil, n) != x.do([]byte{}, e) || x.do(nil, e) != x.do(make([]byte, 40)[:0], n) {
				t.Errorf("%s(%.300s): nil and empty differ", x.name, told(m))
			}
		}
	}
	for _, b := range [][]byte{nil, {}, make([]byte, 200)[:0]} {
		notParsed(t, b)
	}
}
