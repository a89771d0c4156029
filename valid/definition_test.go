package valid_test

import (
	"fmt"
	"slices"
	"testing"

	"citadel/api"
	"citadel/valid"
)

// faultsOf: the chapter's definition, written out once more without the layers below.
func faultsOf(c api.Config) []api.Errno {
	held := map[int]bool{}
	for _, p := range c.Parts {
		held[p.ID] = true
	}
	var l []api.Errno
	for _, x := range []struct {
		errno api.Errno
		is    bool
	}{
		{api.ErrSchedule, !isSchedule(c.Windows, held)},
		{api.ErrParts, !areParts(c.Parts)},
		{api.ErrRegion, !areRegions(c.Parts)},
		{api.ErrOverlap, shareByte(c.Parts)},
		{api.ErrChannel, !areChannels(c.Channels, held)},
	} {
		if x.is {
			l = append(l, x.errno)
		}
	}
	return l
}

func isSchedule(l []api.Window, held map[int]bool) bool {
	left := 64
	for _, w := range l {
		if w.Len < 1 || w.Len > left || w.Part < 0 || w.Part > 6 || w.Part != 0 && !held[w.Part] {
			return false
		}
		left -= w.Len
	}
	return 1 <= len(l) && len(l) <= 12
}

func areParts(l []api.Partition) bool {
	for i, p := range l {
		if p.ID < 1 || p.ID > 6 || i > 0 && l[i-1].ID >= p.ID {
			return false
		}
	}
	return 1 <= len(l) && len(l) <= 6
}

func isRegion(r api.Region) bool {
	return r.Base%4 == 0 && r.Size%4 == 0 && 16 <= r.Size && r.Size <= 512 && 0 <= r.Base && r.Base <= 4096-r.Size
}

func areRegions(l []api.Partition) bool {
	for _, p := range l {
		if !isRegion(p.Region) || len(p.Image) > p.Region.Size {
			return false
		}
	}
	return true
}

// shareByte reports whether a byte is in two valid regions.
func shareByte(l []api.Partition) bool {
	var taken [4096]bool
	for _, p := range l {
		if !isRegion(p.Region) {
			continue
		}
		for at := p.Region.Base; at < p.Region.Base+p.Region.Size; at++ {
			if taken[at] {
				return true
			}
			taken[at] = true
		}
	}
	return false
}

func areChannels(l []api.Channel, held map[int]bool) bool {
	for i, c := range l {
		if c.ID < 1 || c.ID > 8 || i > 0 && l[i-1].ID >= c.ID {
			return false
		}
		if c.From < 1 || c.From > 6 || c.To < 1 || c.To > 6 || c.From == c.To || !held[c.From] || !held[c.To] {
			return false
		}
		if c.Cap < 1 || c.Cap > 4 || c.Size < 1 || c.Size > 16 {
			return false
		}
	}
	return len(l) <= 8
}

// example: the configuration of the chapter's examples.
func example() api.Config {
	return api.Config{Windows: []api.Window{{Len: 2, Part: 1}}, Parts: []api.Partition{part(1, 0, 16, 0)}}
}

// some: a valid configuration with a few of everything.
func some() api.Config {
	return api.Config{
		Windows:  []api.Window{{Len: 3, Part: 1}, {Len: 2}, {Len: 4, Part: 5}, {Len: 1, Part: 2}},
		Parts:    []api.Partition{part(1, 64, 32, 2), part(2, 16, 16, 16), part(5, 1024, 512, 100)},
		Channels: []api.Channel{link(1, 1, 2), {ID: 4, From: 5, To: 1, Cap: 4, Size: 16}, {ID: 8, From: 1, To: 2, Cap: 1, Size: 1}},
	}
}

// full: a valid configuration with as much of everything as there may be.
func full() api.Config {
	c := api.Config{Windows: []api.Window{{Len: 53}}}
	for i := range 11 {
		c.Windows = append(c.Windows, api.Window{Len: 1, Part: i % 7})
	}
	for i := range 6 {
		c.Parts = append(c.Parts, part(i+1, 4096-512*(i+1), 512, 512))
	}
	for i := range 8 {
		c.Channels = append(c.Channels, api.Channel{ID: i + 1, From: i%6 + 1, To: (i+1)%6 + 1, Cap: 4, Size: 16})
	}
	return c
}

// part returns a partition, with Keep for an even ID and an image of so many bytes.
func part(id, base, size, image int) api.Partition {
	return api.Partition{ID: id, Region: api.Region{Base: base, Size: size}, Keep: id%2 == 0, Image: slices.Repeat([]byte{byte(id)}, image)}
}

// parts returns partitions with these IDs, whose regions are disjoint.
func parts(ids ...int) []api.Partition {
	var l []api.Partition
	for i, id := range ids {
		l = append(l, part(id, 16*i, 16, i%3))
	}
	return l
}

func link(id, from, to int) api.Channel {
	return api.Channel{ID: id, From: from, To: to, Cap: 2, Size: 4}
}

// ascends reports whether the numbers are from 1 to most and strictly ascending.
func ascends(l []int, most int) bool {
	last := 0
	for _, x := range l {
		if x <= last || x > most {
			return false
		}
		last = x
	}
	return true
}

// held returns a configuration of a window of nobody and partitions with these IDs.
func held(ids ...int) api.Config {
	return api.Config{Windows: []api.Window{{Len: 1}}, Parts: parts(ids...)}
}

// own returns c in memory of its own.
func own(c api.Config) api.Config {
	c = api.Config{Windows: slices.Clone(c.Windows), Parts: slices.Clone(c.Parts), Channels: slices.Clone(c.Channels)}
	for i, p := range c.Parts {
		c.Parts[i].Image = slices.Clone(p.Image)
	}
	return c
}

// told returns a text of all of c but the bytes of the images, of which only the lengths count.
func told(c api.Config) string {
	var l []string
	for _, p := range c.Parts {
		l = append(l, fmt.Sprint(p.ID, p.Region, p.Keep, len(p.Image)))
	}
	return fmt.Sprint("windows ", c.Windows, " parts ", l, " channels ", c.Channels)
}

// found holds All, Check and Fits of c to these faults.
func found(t *testing.T, c api.Config, want ...api.Errno) {
	t.Helper()
	first := api.OK
	if len(want) > 0 {
		first = want[0]
	}
	if got := valid.All(c); !slices.Equal(got, want) {
		t.Errorf("All(%.400s) = %d, want %d", told(c), got, want)
	}
	if e := valid.Check(c); e != first {
		t.Errorf("Check(%.400s) = %d, want %d", told(c), e, first)
	}
	if fits := valid.Fits(c); fits != (len(want) == 0) {
		t.Errorf("Fits(%.400s) = %v", told(c), fits)
	}
}
