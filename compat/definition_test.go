package compat_test

import (
	"fmt"
	"math"
	"slices"
	"testing"

	"citadel/api"
	"citadel/compat"
	"citadel/valid"
)

// answers: what the calls return of a change; Survives is true for the IDs in parts.
type answers struct {
	errno                    api.Errno
	parts, channels, leaving []int
}

// answersOf: the chapter's definition, written out once more.
func answersOf(from, to api.Config) answers {
	var a answers
	if !valid.Fits(from) || !valid.Fits(to) {
		a.errno = api.ErrArg
		return a
	}
	var there, stays [7]bool
	for _, p := range from.Parts {
		there[p.ID] = true
		for _, q := range to.Parts {
			if p.ID == q.ID && p.Keep && q.Keep {
				stays[p.ID] = p.Region.Size == q.Region.Size
				if !stays[p.ID] {
					a.errno = api.ErrCompat
				}
			}
		}
	}
	for id := range 7 {
		if stays[id] {
			a.parts = append(a.parts, id)
		} else if there[id] {
			a.leaving = append(a.leaving, id)
		}
	}
	for _, x := range from.Channels {
		if stays[x.From] && stays[x.To] && slices.Contains(to.Channels, x) {
			a.channels = append(a.channels, x.ID)
		}
	}
	return a
}

func part(id, base, size int, keep bool) api.Partition {
	return api.Partition{ID: id, Region: api.Region{Base: base, Size: size}, Keep: keep}
}

func link(id, from, to int) api.Channel {
	return api.Channel{ID: id, From: from, To: to, Cap: 2, Size: 4}
}

// config returns a configuration of these partitions and channels, with a window of nobody.
func config(parts []api.Partition, channels ...api.Channel) api.Config {
	return api.Config{Windows: []api.Window{{Len: 1}}, Parts: parts, Channels: channels}
}

// a: the chapter's A.
func a() api.Config {
	return config([]api.Partition{part(1, 0, 16, true), part(2, 16, 32, true), part(3, 48, 16, false)}, link(1, 1, 2), link(2, 1, 3))
}

// b: the chapter's B.
func b() api.Config {
	return config([]api.Partition{part(1, 0, 16, true), part(2, 16, 32, false), part(4, 48, 16, false)}, link(1, 1, 2))
}

// full: as much of everything as there may be, with Keep everywhere.
func full() api.Config {
	c := api.Config{Windows: []api.Window{{Len: 53}}}
	for i := range 11 {
		c.Windows = append(c.Windows, api.Window{Len: 1, Part: i % 7})
	}
	for i := range 6 {
		p := part(i+1, 4096-512*(i+1), 512, true)
		p.Image = slices.Repeat([]byte{byte(i)}, 512)
		c.Parts = append(c.Parts, p)
	}
	for i := range 8 {
		c.Channels = append(c.Channels, api.Channel{ID: i + 1, From: i%6 + 1, To: (i+1)%6 + 1, Cap: 4, Size: 16})
	}
	return c
}

// small: as little of everything as there may be, with Keep.
func small() api.Config { return config([]api.Partition{part(1, 0, 16, true)}) }

// own returns c in memory of its own.
func own(c api.Config) api.Config {
	c = api.Config{Windows: slices.Clone(c.Windows), Parts: slices.Clone(c.Parts), Channels: slices.Clone(c.Channels)}
	for i, p := range c.Parts {
		c.Parts[i].Image = slices.Clone(p.Image)
	}
	return c
}

// with returns c with some changes, in memory of its own.
func with(c api.Config, turns ...func(c *api.Config)) api.Config {
	c = own(c)
	for _, turn := range turns {
		turn(&c)
	}
	return c
}

// valids: valid configurations, ordinary ones and those at the edges.
func valids() []api.Config {
	l := []api.Config{a(), b(), full(), small(), config([]api.Partition{part(6, 4080, 16, false)})}
	for set := range 4 {
		one, two := set&1 == 1, set&2 == 2
		l = append(l, config([]api.Partition{part(2, 0, 16, one), part(5, 512, 512, two)}, link(3, 5, 2), link(8, 2, 5)))
		l = append(l, config([]api.Partition{part(2, 512, 512, one), part(5, 0, 16, two)}, link(3, 5, 2), link(7, 2, 5)))
	}
	return l
}

// faults: ways to make a configuration of up to 6 partitions, the first of which has the ID 1, invalid; each fault of chapter 12 and both ends of the IDs.
func faults() []func(c *api.Config) {
	return []func(c *api.Config){
		func(c *api.Config) { *c = api.Config{} },
		func(c *api.Config) { c.Windows = nil },
		func(c *api.Config) { c.Windows[0].Len = 0 },
		func(c *api.Config) { c.Windows[0].Part = 7 },
		func(c *api.Config) { c.Parts = nil },
		func(c *api.Config) { c.Parts = append(c.Parts, c.Parts[0]) },
		func(c *api.Config) { c.Parts[0].ID = 0 },
		func(c *api.Config) { c.Parts[0].ID = -1 },
		func(c *api.Config) { c.Parts[len(c.Parts)-1].ID = 7 },
		func(c *api.Config) { c.Parts = slices.Insert(c.Parts, 0, part(0, 4080, 16, true)) },
		func(c *api.Config) { c.Parts = append(c.Parts, part(7, 4080, 16, true)) },
		func(c *api.Config) { c.Parts[0].Region.Base = 2 },
		func(c *api.Config) { c.Parts[0].Region.Size = 12 },
		func(c *api.Config) { c.Parts[0].Image = make([]byte, 513) },
		func(c *api.Config) { c.Parts = append(c.Parts, part(6, c.Parts[0].Region.Base, 16, false)) },
		func(c *api.Config) { c.Channels = append(c.Channels, link(9, 1, 2)) },
		func(c *api.Config) { c.Channels = slices.Insert(c.Channels, 0, link(0, 1, 2)) },
		func(c *api.Config) { c.Channels = []api.Channel{link(1, 1, 1)} },
		func(c *api.Config) { c.Channels = []api.Channel{link(1, 1, 7)} },
	}
}

// invalids: what faults make of several configurations.
func invalids() []api.Config {
	l := []api.Config{{Windows: make([]api.Window, 13), Parts: make([]api.Partition, 7), Channels: make([]api.Channel, 9)}}
	for _, turn := range faults() {
		l = append(l, with(a(), turn), with(full(), turn), with(small(), turn))
	}
	return l
}

// greatest: numbers at their least and at their greatest, and those that are small in fewer bits.
func greatest() []int {
	l := []int{math.MinInt, math.MinInt + 1, math.MinInt + 4, math.MaxInt, math.MaxInt - 1, math.MaxInt - 15}
	for _, bits := range []int{16, 31, 32, 33, 62} {
		for _, x := range []int{0, 1, 2, 16} {
			l = append(l, 1<<bits+x, -1<<bits+x)
		}
	}
	return l
}

// told returns a text of all of c but the bytes of the images.
func told(c api.Config) string {
	var l []string
	for _, p := range c.Parts {
		l = append(l, fmt.Sprint(p.ID, p.Region, p.Keep, len(p.Image)))
	}
	return fmt.Sprint("windows ", c.Windows, " parts ", l, " channels ", c.Channels)
}

// answered holds all five calls to these answers.
func answered(t *testing.T, from, to api.Config, want answers) {
	t.Helper()
	pair := func() string { return fmt.Sprintf("%.400s, %.400s", told(from), told(to)) }
	if e := compat.Check(from, to); e != want.errno {
		t.Errorf("Check(%s) = %d, want %d", pair(), e, want.errno)
	}
	for _, x := range []struct {
		name      string
		got, want []int
	}{
		{"Parts", compat.Parts(from, to), want.parts},
		{"Channels", compat.Channels(from, to), want.channels},
		{"Leaving", compat.Leaving(from, to), want.leaving},
	} {
		if !slices.Equal(x.got, x.want) || want.errno == api.ErrArg && x.got != nil {
			t.Errorf("%s(%s) = %#v, want %#v", x.name, pair(), x.got, x.want)
		}
	}
	for id := -2; id <= 9; id++ {
		if got := compat.Survives(from, to, id); got != slices.Contains(want.parts, id) {
			t.Errorf("Survives(%s, %d) = %v", pair(), id, got)
		}
	}
}
