package valid_test

import (
	"fmt"
	"slices"
	"testing"

	"citadel/api"
	"citadel/valid"
)

// inputs: configurations at the edges, valid, with one fault, and with more.
func inputs() []api.Config {
	l := append(valids(), api.Config{}, held(), held(7, 0), held(1, 1), api.Config{Windows: make([]api.Window, 13), Parts: make([]api.Partition, 7), Channels: make([]api.Channel, 9)})
	for _, ways := range wrongs() {
		for _, turn := range ways {
			c := full()
			turn(&c)
			l = append(l, c)
		}
	}
	for way := range 12 {
		c := full()
		for _, ways := range wrongs() {
			ways[way%len(ways)](&c)
		}
		l = append(l, c)
	}
	return l
}

// A call of valid on a configuration; what it returns is written down.
type call struct {
	name string
	do   func(c api.Config) string
}

func calls() []call {
	return []call{
		{"Check", func(c api.Config) string { return fmt.Sprint(int(valid.Check(c))) }},
		{"All", func(c api.Config) string { return fmt.Sprintf("%d", valid.All(c)) }},
		{"Fits", func(c api.Config) string { return fmt.Sprint(valid.Fits(c)) }},
	}
}

// P0.1, P0.2: every call returns, whatever it is given, and names the first of several errors.
func TestAllArguments(t *testing.T) {
	for _, c := range inputs() {
		found(t, c, faultsOf(c)...)
	}
}

// P0.1: lists and images far longer than a configuration may have.
func TestLong(t *testing.T) {
	const n = 1 << 18
	many := some()
	many.Windows = slices.Repeat(many.Windows, n)
	found(t, many, api.ErrSchedule)
	many = some()
	many.Channels = slices.Repeat(many.Channels, n)
	found(t, many, api.ErrChannel)
	many = some()
	many.Parts = slices.Repeat(many.Parts, n)
	found(t, many, api.ErrParts, api.ErrOverlap)
	for i := range many.Parts {
		many.Parts[i].Region = api.Region{Base: 16 * i, Size: 12}
	}
	found(t, many, api.ErrParts, api.ErrRegion)
	many = some()
	many.Parts[1].Image = make([]byte, 16*n)
	found(t, many, api.ErrRegion)
	found(t, api.Config{Windows: make([]api.Window, n), Parts: make([]api.Partition, n), Channels: make([]api.Channel, n)},
		api.ErrSchedule, api.ErrParts, api.ErrRegion, api.ErrChannel)
}

// P0.1: windows and channels of partitions that stand far back in a long list.
func TestFarBack(t *testing.T) {
	c := some()
	c.Parts = append(slices.Repeat([]api.Partition{part(-1, 4096, 16, 0)}, 1<<20), c.Parts...)
	found(t, c, api.ErrParts, api.ErrRegion)
	c.Parts = c.Parts[:len(c.Parts)-1]
	found(t, c, api.ErrSchedule, api.ErrParts, api.ErrRegion, api.ErrChannel)
}

// P0.3: calls, those that name a fault among them, change nothing that later ones answer.
func TestNothingKept(t *testing.T) {
	for range 3 {
		for _, c := range inputs() {
			for _, x := range calls() {
				x.do(c)
			}
			found(t, some())
			found(t, example())
			found(t, held(1, 1), api.ErrParts)
			found(t, api.Config{}, api.ErrSchedule, api.ErrParts)
		}
	}
}

// laid returns the configuration in longer memory of its own, and a text of all of that memory.
func laid(c api.Config) (in api.Config, text func() string) {
	list := slices.Clone(c.Parts)
	for i, p := range list {
		long := slices.Concat([]byte("####"), p.Image, slices.Repeat([]byte{'#'}, 600))
		list[i].Image = long[4 : 4+len(p.Image)]
	}
	windows := slices.Concat([]api.Window{{Len: -1}}, c.Windows, make([]api.Window, 20))
	list = slices.Concat([]api.Partition{part(0, 0, 4, 5)}, list, slices.Repeat(full().Parts, 3))
	channels := slices.Concat([]api.Channel{{ID: 9}}, c.Channels, make([]api.Channel, 20))
	in = api.Config{Windows: windows[1 : 1+len(c.Windows)], Parts: list[1 : 1+len(c.Parts)], Channels: channels[1 : 1+len(c.Channels)]}
	return in, func() string {
		all := fmt.Sprint(windows, list, channels)
		for _, p := range in.Parts {
			all += string(p.Image[:cap(p.Image)])
		}
		return all
	}
}

// P0.4: what is passed is not changed, nor is what lies beyond its length, which counts for nothing.
func TestArgumentsUnchanged(t *testing.T) {
	for _, c := range inputs() {
		for _, x := range calls() {
			in, text := laid(c)
			want := text()
			if got := x.do(in); got != x.do(c) {
				t.Errorf("%s(%.300s) depends on what lies beyond it: %s", x.name, told(c), got)
			}
			if text() != want {
				t.Errorf("%s(%.300s) changed what was passed", x.name, told(c))
			}
		}
	}
}

// P0.4: what is passed is not kept: the same memory may become another configuration.
func TestArgumentsNotKept(t *testing.T) {
	for _, was := range inputs() {
		for _, is := range []api.Config{full(), inputs()[len(inputs())-1]} {
			c := own(was)
			for _, x := range calls() {
				x.do(c)
			}
			copy(c.Windows, is.Windows)
			copy(c.Parts, is.Parts)
			copy(c.Channels, is.Channels)
			found(t, c, faultsOf(own(c))...)
		}
	}
}

// P0.4: what All returns is new memory, with its capacity.
func TestAnswersAreNew(t *testing.T) {
	for _, c := range inputs() {
		want := faultsOf(c)
		a, b := valid.All(c), valid.All(c)
		a = a[:cap(a)]
		for i := range a {
			a[i] = -1
		}
		if !slices.Equal(b, want) {
			t.Errorf("All(%.300s) became %d, want %d", told(c), b, want)
		}
		found(t, c, want...)
	}
}

// P0.4: nil and empty slices are equivalent: lists and images.
func TestNilIsEmpty(t *testing.T) {
	for _, c := range inputs() {
		d := own(c)
		for i, p := range d.Parts {
			if len(p.Image) == 0 {
				c.Parts[i].Image, d.Parts[i].Image = nil, make([]byte, 600)[:0]
			}
		}
		if len(c.Windows) == 0 {
			c.Windows, d.Windows = nil, make([]api.Window, 3)[:0]
		}
		if len(c.Parts) == 0 {
			c.Parts, d.Parts = nil, make([]api.Partition, 3)[:0]
		}
		if len(c.Channels) == 0 {
			c.Channels, d.Channels = nil, make([]api.Channel, 3)[:0]
		}
		for _, x := range calls() {
			if a, b := x.do(c), x.do(d); a != b {
				t.Errorf("%s(%.300s): nil and empty differ: %s, %s", x.name, told(c), a, b)
			}
		}
	}
}
