package compat_test

import (
	"slices"
	"testing"

	"citadel/api"
	"citadel/compat"
	"citadel/valid"
)

// P13.1, P13.2, P13.3: the chapter's examples.
func TestExamples(t *testing.T) {
	resized := with(a(), func(c *api.Config) { c.Parts[1].Region.Size = 16 })
	answered(t, a(), b(), answers{parts: []int{1}, leaving: []int{2, 3}})
	answered(t, a(), a(), answers{parts: []int{1, 2}, channels: []int{1}, leaving: []int{3}})
	answered(t, a(), resized, answers{errno: api.ErrCompat, parts: []int{1}, leaving: []int{2, 3}})
	answered(t, a(), api.Config{}, answers{errno: api.ErrArg})
	answered(t, b(), a(), answers{parts: []int{1}, leaving: []int{2, 4}})
}

// P13.1 (Check), P13.2 (Survives, Parts), P13.3 (Leaving): Keep in both, in one, in none; the same size and another one, at the same place and at another one.
func TestKeepAndRegion(t *testing.T) {
	for _, keeps := range [][2]bool{{true, true}, {true, false}, {false, true}, {false, false}} {
		for _, size := range []int{16, 20, 32, 512} {
			for _, base := range []int{0, 4, 1024} {
				from := config([]api.Partition{part(3, 0, 32, keeps[0])})
				to := config([]api.Partition{part(3, base, size, keeps[1])})
				want := answers{leaving: []int{3}}
				if keeps[0] && keeps[1] && size == 32 {
					want = answers{parts: []int{3}}
				} else if keeps[0] && keeps[1] {
					want.errno = api.ErrCompat
				}
				answered(t, from, to, want)
				answered(t, to, from, want)
			}
		}
	}
}

// P13.1, P13.2: any two sizes that a region may have, the least and the greatest among them.
func TestSizes(t *testing.T) {
	for one := 16; one <= 512; one += 4 {
		for _, two := range []int{16, 20, 252, 256, 260, 508, 512, one} {
			from, to := config([]api.Partition{part(1, 0, one, true)}), config([]api.Partition{part(1, 4096-two, two, true)})
			want := answers{parts: []int{1}}
			if one != two {
				want = answers{errno: api.ErrCompat, leaving: []int{1}}
			}
			answered(t, from, to, want)
			answered(t, to, from, want)
		}
	}
}

// P13.1, P13.2, P13.3 (Leaving): a partition that only one configuration has, with Keep and without.
func TestOnlyOneHas(t *testing.T) {
	for _, keep := range []bool{true, false} {
		// The other one has a partition with its region, too.
		from := config([]api.Partition{part(1, 0, 16, true), part(4, 16, 32, keep)})
		to := config([]api.Partition{part(1, 0, 16, true), part(5, 16, 32, keep)})
		answered(t, from, small(), answers{parts: []int{1}, leaving: []int{4}})
		answered(t, small(), from, answers{parts: []int{1}})
		answered(t, from, to, answers{parts: []int{1}, leaving: []int{4}})
		answered(t, to, from, answers{parts: []int{1}, leaving: []int{5}})
		alone := config([]api.Partition{part(4, 16, 16, keep)})
		answered(t, alone, small(), answers{leaving: []int{4}})
		answered(t, small(), alone, answers{leaving: []int{1}})
	}
}

// only returns c with the partitions whose bits are set, the first one's being the lowest, and without channels.
func only(c api.Config, set int) api.Config {
	parts := slices.DeleteFunc(own(c).Parts, func(p api.Partition) bool { return set>>(p.ID-1)&1 == 0 })
	return config(parts)
}

// members returns the IDs from 1 to 6 whose bits are set, ascending.
func members(set int) []int {
	var l []int
	for id := 1; id <= 6; id++ {
		if set>>(id-1)&1 == 1 {
			l = append(l, id)
		}
	}
	return l
}

// P13.2 (Parts), P13.3 (Leaving): any partitions to any others, ascending.
func TestSets(t *testing.T) {
	for one := 1; one < 64; one++ {
		for two := 1; two < 64; two++ {
			answered(t, only(full(), one), only(full(), two), answers{parts: members(one & two), leaving: members(one &^ two)})
		}
	}
}

// P13.1, P13.2, P13.3: any partitions of six without Keep in one of the two, or in both.
func TestSetsOfKeep(t *testing.T) {
	keeping := func(set int) api.Config {
		return with(full(), func(c *api.Config) {
			c.Channels = nil
			for i := range c.Parts {
				c.Parts[i].Keep = set>>i&1 == 1
			}
		})
	}
	for one := range 64 {
		for two := range 64 {
			answered(t, keeping(one), keeping(two), answers{parts: members(one & two), leaving: members(63 &^ (one & two))})
		}
	}
}

// P13.1, P13.2, P13.3: any partitions of six with another size; the rest of the answers stays what it is.
func TestSetsOfSizes(t *testing.T) {
	for set := range 64 {
		for _, keep := range []bool{true, false} {
			to := with(full(), func(c *api.Config) {
				c.Channels = nil
				for i := range c.Parts {
					if set>>i&1 == 1 {
						c.Parts[i].Region.Size, c.Parts[i].Image, c.Parts[i].Keep = 508, nil, keep
					}
				}
			})
			want := answers{parts: members(63 &^ set), leaving: members(set)}
			if set != 0 && keep {
				want.errno = api.ErrCompat
			}
			answered(t, full(), to, want)
			answered(t, to, full(), want)
		}
	}
}

// P13.1: one partition that keeps its state and has another size, another one that doesn't keep it: which of them stands first doesn't matter.
func TestOneOfTwoResized(t *testing.T) {
	for _, first := range []bool{true, false} {
		from := config([]api.Partition{part(1, 0, 16, first), part(2, 64, 16, !first)})
		to := config([]api.Partition{part(1, 0, 32, true), part(2, 64, 32, true)})
		for _, pair := range [][2]api.Config{{from, to}, {to, from}} {
			answered(t, pair[0], pair[1], answers{errno: api.ErrCompat, leaving: []int{1, 2}})
		}
	}
}

// P13.1, P13.2, P13.3: images, windows and regions that change places are nothing that keeps a partition from surviving.
func TestTheRestMayChange(t *testing.T) {
	want := answers{parts: []int{1, 2, 3, 4, 5, 6}, channels: []int{1, 2, 3, 4, 5, 6, 7, 8}}
	for _, turn := range []func(c *api.Config){
		func(c *api.Config) { c.Windows = []api.Window{{Len: 64}} },
		func(c *api.Config) { c.Windows[3].Part = 6 },
		func(c *api.Config) { c.Parts[0].Image = nil },
		func(c *api.Config) { c.Parts[5].Image = []byte("other") },
		func(c *api.Config) { c.Parts[2].Image[511]++ },
		func(c *api.Config) { c.Parts[4].Region, c.Parts[1].Region = c.Parts[1].Region, c.Parts[4].Region },
		func(c *api.Config) {
			for i := range c.Parts {
				c.Parts[i].Region.Base = 512 * i
			}
		},
	} {
		to := with(full(), turn)
		answered(t, full(), to, want)
		answered(t, to, full(), want)
	}
}

// P13.1 (ErrArg), P13.2, P13.3: a configuration that is invalid on either side, on both.
func TestInvalid(t *testing.T) {
	for _, wrong := range invalids() {
		if valid.Fits(wrong) {
			t.Errorf("%.400s is valid", told(wrong))
		}
		for _, right := range valids() {
			answered(t, wrong, right, answers{errno: api.ErrArg})
			answered(t, right, wrong, answers{errno: api.ErrArg})
		}
		for _, other := range invalids() {
			answered(t, wrong, other, answers{errno: api.ErrArg})
		}
	}
}

// P13.1, P0.2: where a configuration is invalid and a kept partition has another size, the first of the errors.
func TestInvalidAndResized(t *testing.T) {
	resize := func(c *api.Config) { c.Parts[1].Region.Size, c.Parts[1].Image = 16, nil }
	for _, start := range []api.Config{a(), full()} {
		answered(t, start, with(start, resize), answersOf(start, with(start, resize)))
		if e := compat.Check(start, with(start, resize)); e != api.ErrCompat {
			t.Errorf("Check = %d, want ErrCompat", e)
		}
		for _, turn := range faults() {
			answered(t, start, with(start, resize, turn), answers{errno: api.ErrArg})
			answered(t, with(start, turn), with(start, resize), answers{errno: api.ErrArg})
			answered(t, with(start, turn), with(start, resize, turn), answers{errno: api.ErrArg})
			answered(t, with(start, resize), with(start, turn), answers{errno: api.ErrArg})
		}
	}
}

// P13.1, P13.2, P13.3: the zero configuration is invalid on either side, on both.
func TestZero(t *testing.T) {
	answered(t, api.Config{}, api.Config{}, answers{errno: api.ErrArg})
	for _, c := range valids() {
		answered(t, c, api.Config{}, answers{errno: api.ErrArg})
		answered(t, api.Config{}, c, answers{errno: api.ErrArg})
	}
}

// P13.2 (Survives): an ID that no partition can have doesn't survive, whichever configuration there is; one in both, with Keep, makes them invalid.
func TestIDsOutside(t *testing.T) {
	for _, id := range append(greatest(), -7, -1, 0, 7, 8) {
		for _, c := range valids() {
			if compat.Survives(c, c, id) {
				t.Errorf("%d survives from %.400s to itself", id, told(c))
			}
		}
		c := config([]api.Partition{part(id, 0, 16, true)})
		if compat.Survives(c, c, id) {
			t.Errorf("a partition %d survives", id)
		}
		answered(t, c, c, answers{errno: api.ErrArg})
		answered(t, small(), c, answers{errno: api.ErrArg})
		answered(t, c, small(), answers{errno: api.ErrArg})
	}
}

// P13.2 (Survives): each ID that a partition can have, where all have Keep.
func TestIDs(t *testing.T) {
	for id := 1; id <= 6; id++ {
		c := config([]api.Partition{part(id, 0, 16, true)})
		answered(t, c, c, answers{parts: []int{id}})
		for other := 1; other <= 6; other++ {
			if other != id {
				answered(t, c, config([]api.Partition{part(other, 0, 16, true)}), answers{leaving: []int{id}})
			}
		}
	}
}
