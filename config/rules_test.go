package config_test

import (
	"fmt"
	"slices"
	"testing"

	"citadel/api"
	"citadel/config"
)

// A call of config on a configuration; what it returns is written down.
type call struct {
	name string
	do   func(c api.Config) string
}

func calls() []call {
	return []call{
		{"Can", func(c api.Config) string { return fmt.Sprint(config.Can(c)) }},
		{"Print", func(c api.Config) string {
			b, e := config.Print(c)
			return fmt.Sprint(b, int(e))
		}},
		{"Same", func(c api.Config) string {
			return fmt.Sprint(config.Same(c, some()), config.Same(one(), c), config.Same(c, c))
		}},
		{"Part", func(c api.Config) string {
			text := ""
			for id := -1; id < 9; id++ {
				p, ok := config.Part(c, id)
				text += fmt.Sprint(p, ok)
			}
			return text
		}},
		{"Channel", func(c api.Config) string {
			text := ""
			for id := -1; id < 9; id++ {
				x, ok := config.Channel(c, id)
				text += fmt.Sprint(x, ok)
			}
			return text
		}},
		{"Copy", func(c api.Config) string { return told(config.Copy(c)) }},
	}
}

// P0.1, P0.2: every call returns, whatever it is given; beside an error and beside false stand zero values.
func TestAllArguments(t *testing.T) {
	for _, c := range inputs() {
		can(t, c, isEncodable(c))
		if isEncodable(c) {
			printed(t, c, form(c))
			parsed(t, form(c), c)
		} else {
			notPrinted(t, c)
			notParsed(t, form(c))
		}
		same(t, c, c, true)
		for _, id := range append(greatest(), 2, 3, 7) {
			partIs(t, c, id, slices.IndexFunc(c.Parts, func(p api.Partition) bool { return p.ID == id }))
			channelIs(t, c, id, slices.IndexFunc(c.Channels, func(x api.Channel) bool { return x.ID == id }))
		}
	}
}

// P0.1: Parse of bytes of one value, of all lengths up to some.
func TestAllBytes(t *testing.T) {
	for _, x := range []byte{0, 1, 2, 0x7f, 0x80, 0xff} {
		for n := range 400 {
			if got := held(t, slices.Repeat([]byte{x}, n)); got != (x == 0 && n == 24) {
				t.Errorf("%d times %d: %v", n, x, got)
			}
		}
	}
}

// P0.1: lists, images and bytes far longer than a configuration may have.
func TestLong(t *testing.T) {
	const n = 1 << 20
	long := []api.Config{
		{Windows: make([]api.Window, n)}, {Parts: make([]api.Partition, n)}, {Channels: make([]api.Channel, n)},
		{Parts: []api.Partition{{ID: 1, Image: make([]byte, 16*n)}}},
	}
	for i, c := range long {
		if got, e := config.Print(c); got != nil || e != api.ErrArg || config.Can(c) {
			t.Errorf("%d: %d bytes, %d", i, len(got), e)
		}
		d := config.Copy(c)
		if !config.Same(c, d) || config.Same(c, api.Config{}) || config.Same(api.Config{}, d) {
			t.Errorf("%d: the copy is another configuration", i)
		}
		if _, ok := config.Part(c, 9); ok {
			t.Errorf("%d: a partition that is not there", i)
		}
		if _, ok := config.Channel(c, 9); ok {
			t.Errorf("%d: a channel that is not there", i)
		}
	}
	if p, ok := config.Part(long[3], 1); !ok || len(p.Image) != 16*n {
		t.Errorf("a long image: %d bytes, %v", len(p.Image), ok)
	}
	notParsed(t, make([]byte, 16*n))
}

// P0.3: calls, those that are refused among them, change nothing that later ones answer.
func TestNothingKept(t *testing.T) {
	for range 2 {
		for _, c := range append(encodables(), others()...) {
			for _, x := range calls() {
				x.do(c)
			}
			config.Parse(form(c))
			config.Parse(form(c)[1:])
			printed(t, api.Config{}, make([]byte, 24))
			printed(t, one(), form(one()))
			parsed(t, form(some()), some())
			parsed(t, make([]byte, 24), api.Config{})
			partIs(t, some(), 2, 1)
			channelIs(t, some(), 7, 1)
			same(t, one(), some(), false)
		}
	}
}

// laid returns the configuration in longer memory of its own, and a text of all of that memory.
func laid(c api.Config) (in api.Config, text func() string) {
	var memory []byte
	parts := slices.Clone(c.Parts)
	for i, p := range c.Parts {
		long := slices.Concat([]byte("####"), p.Image, []byte("########"))
		memory = append(memory, long...)
		parts[i].Image = long[4 : 4+len(p.Image)]
	}
	windows := slices.Concat([]api.Window{{Len: -1}}, c.Windows, make([]api.Window, 20))
	parts = slices.Concat([]api.Partition{{ID: 2}}, parts, make([]api.Partition, 20))
	channels := slices.Concat([]api.Channel{{ID: 2}}, c.Channels, make([]api.Channel, 20))
	in = api.Config{Windows: windows[1 : 1+len(c.Windows)], Parts: parts[1 : 1+len(c.Parts)], Channels: channels[1 : 1+len(c.Channels)]}
	return in, func() string {
		all := fmt.Sprint(windows, parts, channels)
		for _, p := range in.Parts {
			all += fmt.Sprint(p.Image[:cap(p.Image)])
		}
		return all
	}
}

// P0.4: what is passed is not changed, nor is what lies beyond its length, which counts for nothing.
func TestArgumentsUnchanged(t *testing.T) {
	for _, c := range slices.Concat(encodables(), others(), bases()) {
		for _, x := range calls() {
			in, text := laid(c)
			want := text()
			if got := x.do(in); got != x.do(c) {
				t.Errorf("%s(%.200s) depends on what lies beyond it: %.200s", x.name, told(c), got)
			}
			if text() != want {
				t.Errorf("%s(%.200s) changed what was passed", x.name, told(c))
			}
		}
	}
}

// P0.4: Parse neither changes the bytes, nor those beyond their length, which count for nothing.
func TestBytesUnchanged(t *testing.T) {
	for _, c := range append(encodables(), others()...) {
		for _, cut := range []int{0, 1, 8} {
			b := form(c)
			long := slices.Concat([]byte("####"), b, []byte("########"))
			want := string(long)
			held(t, long[4:4+len(b)-cut])
			if string(long) != want {
				t.Errorf("Parse(%.200v) changed what was passed", b)
			}
		}
	}
}

// P0.4: what is passed is not kept: it may be written over, while what was returned stays.
func TestArgumentsNotKept(t *testing.T) {
	for _, c := range slices.Concat(encodables(), bases()) {
		in, _ := laid(c)
		b, _ := config.Print(in)
		p, _ := config.Part(in, 1)
		want := fmt.Sprint(b, p)
		scrawl(in)
		if got := fmt.Sprint(b, p); got != want {
			t.Errorf("%.200s became %.200s", want, got)
		}
		b = form(c)
		got, _ := config.Parse(b)
		want = told(got)
		scrawlBytes(b)
		if told(got) != want {
			t.Errorf("Parse: %.200s became %.200s", want, told(got))
		}
	}
}

// P0.4: what Print and Part return is new memory, with its capacity.
func TestAnswersAreNew(t *testing.T) {
	for _, c := range slices.Concat(encodables(), bases()) {
		in, text := laid(c)
		want := text()
		a, _ := config.Print(in)
		b, _ := config.Print(in)
		p, _ := config.Part(in, 1)
		q, _ := config.Part(in, 1)
		wantB := fmt.Sprint(b, q)
		scrawlBytes(a)
		scrawlBytes(p.Image)
		if text() != want {
			t.Errorf("the answers for %.200s share memory with it", told(c))
		}
		if got := fmt.Sprint(b, q); got != wantB {
			t.Errorf("%.200s became %.200s", wantB, got)
		}
	}
}

// P0.4: what Parse returns is new memory, with its capacity: no two lists and no two images share any.
func TestParsedIsNew(t *testing.T) {
	for _, c := range encodables() {
		b := form(c)
		first, _ := config.Parse(b)
		second, _ := config.Parse(b)
		scrawl(first)
		if told(second) != told(c) || string(b) != string(form(c)) {
			t.Errorf("the answers for %.200s share memory: %.200s, %.200v", told(c), told(second), b)
		}
	}
}

// apart writes over each image in turn, the capacity with it, and holds the others to want.
func apart(t *testing.T, name string, get func() api.Config, want api.Config) {
	t.Helper()
	for i := range want.Parts {
		c := get()
		scrawlBytes(c.Parts[i].Image)
		c.Parts[i].Image = want.Parts[i].Image
		if told(c) != told(want) {
			t.Errorf("%s: image %d of %.200s shares memory with another: %.200s", name, i, told(want), told(c))
		}
	}
}

// P0.4: no two images of an answer share memory, in Parse and in Copy.
func TestImagesApart(t *testing.T) {
	for _, c := range append(encodables(), imaged(0, 0, 3, 0, 5, 8)) {
		b := form(c)
		apart(t, "Parse", func() api.Config {
			got, _ := config.Parse(b)
			return got
		}, c)
		in, _ := laid(c)
		apart(t, "Copy", func() api.Config { return config.Copy(in) }, c)
	}
}

// P0.4: nil and empty slices are equivalent: lists and images.
func TestNilIsEmpty(t *testing.T) {
	empty := api.Config{Windows: []api.Window{}, Parts: []api.Partition{}, Channels: []api.Channel{}}
	pairs := [][2]api.Config{
		{{}, empty},
		{{Windows: []api.Window{}}, {Parts: []api.Partition{}}},
		{{Parts: []api.Partition{{ID: 1}}}, {Parts: []api.Partition{{ID: 1, Image: []byte{}}}}},
		{{Parts: []api.Partition{{Image: []byte{}}, {}}}, {Parts: []api.Partition{{}, {Image: make([]byte, 5)[:0]}}}},
	}
	for _, p := range pairs {
		same(t, p[0], p[1], true)
		for _, x := range calls() {
			if a, b := x.do(p[0]), x.do(p[1]); a != b {
				t.Errorf("%s: nil and empty differ: %s, %s", x.name, a, b)
			}
		}
	}
}
