package compat_test

import (
	"fmt"
	"slices"
	"testing"

	"citadel/api"
	"citadel/compat"
)

// inputs: configurations at the edges, valid and not.
func inputs() []api.Config { return append(valids(), invalids()...) }

// A call of compat on two configurations; what it returns is written down.
type call struct {
	name string
	do   func(from, to api.Config) string
}

func calls() []call {
	return []call{
		{"Check", func(from, to api.Config) string { return fmt.Sprint(int(compat.Check(from, to))) }},
		{"Survives", func(from, to api.Config) string {
			return fmt.Sprint(compat.Survives(from, to, 1), compat.Survives(from, to, 6), compat.Survives(from, to, 0))
		}},
		{"Parts", func(from, to api.Config) string { return fmt.Sprint(compat.Parts(from, to)) }},
		{"Channels", func(from, to api.Config) string { return fmt.Sprint(compat.Channels(from, to)) }},
		{"Leaving", func(from, to api.Config) string { return fmt.Sprint(compat.Leaving(from, to)) }},
	}
}

// numbers returns the places of all numbers of c.
func numbers(c *api.Config) []*int {
	var l []*int
	for i := range c.Windows {
		x := &c.Windows[i]
		l = append(l, &x.Len, &x.Part)
	}
	for i := range c.Parts {
		x := &c.Parts[i]
		l = append(l, &x.ID, &x.Region.Base, &x.Region.Size)
	}
	for i := range c.Channels {
		x := &c.Channels[i]
		l = append(l, &x.ID, &x.From, &x.To, &x.Cap, &x.Size)
	}
	return l
}

// P0.1, P13.1 (ErrArg): numbers at their least and at their greatest in each field, on either side and on both.
func TestExtremes(t *testing.T) {
	for _, x := range greatest() {
		for _, start := range []api.Config{a(), full()} {
			for i := range numbers(&start) {
				c := own(start)
				*numbers(&c)[i] = x
				answered(t, start, c, answers{errno: api.ErrArg})
				answered(t, c, start, answers{errno: api.ErrArg})
				answered(t, c, c, answers{errno: api.ErrArg})
			}
			c := own(start)
			for _, n := range numbers(&c) {
				*n = x
			}
			answered(t, start, c, answers{errno: api.ErrArg})
			answered(t, c, start, answers{errno: api.ErrArg})
		}
	}
}

// P13.1, P13.2, P13.3: each number of one configuration at every value near what it may be, against the definition.
func TestEachNumber(t *testing.T) {
	values := []int{-16, -1, 0, 1, 2, 3, 4, 5, 6, 7, 8, 9, 12, 16, 17, 20, 32, 64, 508, 512, 1024, 3584, 4096}
	for _, start := range []api.Config{a(), full(), small()} {
		for i := range numbers(&start) {
			for _, x := range values {
				c := own(start)
				*numbers(&c)[i] = x
				answered(t, start, c, answersOf(start, c))
				answered(t, c, start, answersOf(c, start))
				answered(t, c, c, answersOf(c, c))
			}
		}
	}
}

// P0.1: lists and images far longer than a configuration may have.
func TestLong(t *testing.T) {
	const n = 1 << 16
	for _, turn := range []func(c *api.Config){
		func(c *api.Config) { c.Windows = slices.Repeat(c.Windows, n) },
		func(c *api.Config) { c.Parts = slices.Repeat(c.Parts, n) },
		func(c *api.Config) { c.Channels = slices.Repeat(c.Channels, n) },
		func(c *api.Config) { c.Parts[5].Image = make([]byte, 16*n) },
	} {
		c := with(full(), turn)
		answered(t, c, full(), answers{errno: api.ErrArg})
		answered(t, full(), c, answers{errno: api.ErrArg})
		answered(t, c, c, answers{errno: api.ErrArg})
	}
}

// P0.3: calls, those that return an error among them, change nothing that later ones answer.
func TestNothingKept(t *testing.T) {
	for _, from := range inputs() {
		for _, to := range inputs() {
			for _, x := range calls() {
				if one, two := x.do(from, to), x.do(from, to); one != two {
					t.Errorf("%s(%.400s, %.400s) = %s, then %s", x.name, told(from), told(to), one, two)
				}
			}
		}
		answered(t, a(), b(), answers{parts: []int{1}, leaving: []int{2, 3}})
		answered(t, a(), a(), answers{parts: []int{1, 2}, channels: []int{1}, leaving: []int{3}})
	}
}

// laid returns the configuration in longer memory of its own, and a text of all of that memory.
func laid(c api.Config) (in api.Config, text func() string) {
	list := slices.Clone(c.Parts)
	for i, p := range list {
		long := slices.Concat([]byte("####"), p.Image, slices.Repeat([]byte{'#'}, 600))
		list[i].Image = long[4 : 4+len(p.Image)]
	}
	windows := slices.Concat([]api.Window{{Len: -1}}, c.Windows, make([]api.Window, 20))
	list = slices.Concat([]api.Partition{part(0, 0, 4, true)}, list, full().Parts, full().Parts)
	channels := slices.Concat([]api.Channel{{ID: 9}}, c.Channels, full().Channels)
	in = api.Config{Windows: windows[1 : 1+len(c.Windows)], Parts: list[1 : 1+len(c.Parts)], Channels: channels[1 : 1+len(c.Channels)]}
	return in, func() string {
		all := fmt.Sprint(windows, list, channels)
		for _, p := range in.Parts {
			all += string(p.Image[:cap(p.Image)])
		}
		return all
	}
}

// P0.4: what is passed is not changed, nor is what lies beyond its length, which counts for nothing.
func TestArgumentsUnchanged(t *testing.T) {
	others := append(valids()[:4], with(full(), func(c *api.Config) { c.Windows = nil }))
	for _, c := range inputs() {
		for _, d := range others {
			one, textOne := laid(c)
			two, textTwo := laid(d)
			wantOne, wantTwo := textOne(), textTwo()
			for _, x := range calls() {
				if x.do(one, two) != x.do(c, d) || x.do(two, one) != x.do(d, c) {
					t.Errorf("%s(%.400s, %.400s) depends on what lies beyond", x.name, told(c), told(d))
				}
			}
			if textOne() != wantOne || textTwo() != wantTwo {
				t.Errorf("a call changed what was passed: %.400s, %.400s", told(c), told(d))
			}
		}
	}
}

// P0.4: what is passed is not kept: the same memory may become another configuration.
func TestArgumentsNotKept(t *testing.T) {
	for _, was := range inputs() {
		for _, is := range []api.Config{a(), b(), full(), invalids()[0]} {
			c, d := own(was), full()
			for _, x := range calls() {
				x.do(c, d)
				x.do(d, c)
			}
			copy(c.Windows, is.Windows)
			copy(c.Parts, is.Parts)
			copy(c.Channels, is.Channels)
			d.Parts[2].Keep, d.Channels[0].Cap = false, 1
			answered(t, c, d, answersOf(c, d))
			answered(t, d, c, answersOf(d, c))
		}
	}
}

// P0.4: from and to may share their memory, or some of it.
func TestSharedMemory(t *testing.T) {
	long := full()
	for n := 1; n <= 6; n++ {
		from := config(long.Parts[:n])
		for m := range n {
			to := config(long.Parts[m:n])
			answered(t, from, to, answersOf(own(from), own(to)))
			answered(t, to, from, answersOf(own(to), own(from)))
		}
	}
}

// P0.4: what is returned is new memory, with its capacity.
func TestAnswersAreNew(t *testing.T) {
	lists := []func(from, to api.Config) []int{compat.Parts, compat.Channels, compat.Leaving}
	for _, x := range pairs(104)[:300] {
		from, text := laid(x[0])
		want := text()
		for _, list := range lists {
			one, two := list(from, x[1]), list(from, x[1])
			kept := slices.Clone(two)
			one = one[:cap(one)]
			for i := range one {
				one[i] = -1
			}
			if !slices.Equal(two, kept) || !slices.Equal(list(from, x[1]), kept) || text() != want {
				t.Errorf("an answer of %.400s, %.400s shares its memory", told(from), told(x[1]))
			}
		}
	}
}

// P0.4: nil and empty slices are equivalent: lists and images.
func TestNilIsEmpty(t *testing.T) {
	for _, c := range inputs() {
		d := own(c)
		for i, p := range d.Parts {
			if len(p.Image) == 0 {
				c.Parts[i].Image, d.Parts[i].Image = nil, make([]byte, 600)[:0]
			}
		}
		if len(c.Windows) == 0 {
			c.Windows, d.Windows = nil, make([]api.Window, 3)[:0]
		}
		if len(c.Parts) == 0 {
			c.Parts, d.Parts = nil, make([]api.Partition, 3)[:0]
		}
		if len(c.Channels) == 0 {
			c.Channels, d.Channels = nil, make([]api.Channel, 3)[:0]
		}
		for _, other := range valids() {
			for _, x := range calls() {
				if x.do(c, other) != x.do(d, other) || x.do(other, c) != x.do(other, d) || x.do(c, d) != x.do(c, c) {
					t.Errorf("%s(%.400s, %.400s): nil and empty differ", x.name, told(c), told(other))
				}
			}
		}
	}
}
