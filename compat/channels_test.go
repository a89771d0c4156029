package compat_test

import (
	"slices"
	"testing"

	"citadel/api"
)

// four returns a configuration of four partitions, all with Keep, and these channels.
func four(channels ...api.Channel) api.Config {
	return config([]api.Partition{part(1, 0, 16, true), part(2, 64, 16, true), part(3, 128, 16, true), part(5, 192, 16, true)}, channels...)
}

// stayed: the answers where all of four's partitions survive, and these channels.
func stayed(channels ...int) answers {
	return answers{parts: []int{1, 2, 3, 5}, channels: channels}
}

// bothWays holds the calls to these answers in both directions.
func bothWays(t *testing.T, one, two api.Config, want answers) {
	t.Helper()
	answered(t, one, two, want)
	answered(t, two, one, want)
}

// P13.3 (Channels): a channel that is the same in both, that differs in one field, each field once, or in more.
func TestFieldsOfAChannel(t *testing.T) {
	start := api.Channel{ID: 4, From: 1, To: 2, Cap: 2, Size: 4}
	bothWays(t, four(start), four(start), stayed(4))
	for _, other := range []api.Channel{
		{ID: 3, From: 1, To: 2, Cap: 2, Size: 4},
		{ID: 5, From: 1, To: 2, Cap: 2, Size: 4},
		{ID: 4, From: 3, To: 2, Cap: 2, Size: 4},
		{ID: 4, From: 1, To: 3, Cap: 2, Size: 4},
		{ID: 4, From: 1, To: 2, Cap: 1, Size: 4},
		{ID: 4, From: 1, To: 2, Cap: 3, Size: 4},
		{ID: 4, From: 1, To: 2, Cap: 2, Size: 3},
		{ID: 4, From: 1, To: 2, Cap: 2, Size: 5},
		{ID: 4, From: 2, To: 1, Cap: 2, Size: 4},
		{ID: 4, From: 1, To: 2, Cap: 4, Size: 2},
		{ID: 4, From: 3, To: 5, Cap: 1, Size: 16},
	} {
		bothWays(t, four(start), four(other), stayed())
	}
}

// P13.3 (Channels): the numbers of a channel at their least and at their greatest.
func TestEdgesOfAChannel(t *testing.T) {
	least, most := api.Channel{ID: 1, From: 1, To: 2, Cap: 1, Size: 1}, api.Channel{ID: 8, From: 6, To: 5, Cap: 4, Size: 16}
	some := func(l ...api.Channel) api.Config { return with(full(), func(c *api.Config) { c.Channels = l }) }
	want := answers{parts: []int{1, 2, 3, 4, 5, 6}}
	bothWays(t, some(least), some(most), want)
	want.channels = []int{1}
	bothWays(t, some(least, most), some(least), want)
	want.channels = []int{8}
	bothWays(t, some(most), some(least, most), want)
	want.channels = []int{1, 8}
	bothWays(t, some(least, most), some(least, most), want)
}

// P13.3 (Channels): a channel that only one has, and channels that stand at other places of the list.
func TestChannelOnlyOneHas(t *testing.T) {
	one, two, three := link(2, 1, 2), link(4, 2, 1), link(7, 5, 3)
	bothWays(t, four(one), four(), stayed())
	bothWays(t, four(one, two, three), four(), stayed())
	bothWays(t, four(one, two), four(two), stayed(4))
	bothWays(t, four(one, two), four(two, three), stayed(4))
	bothWays(t, four(one), four(two, three), stayed())
	bothWays(t, four(one, two, three), four(three), stayed(7))
	bothWays(t, four(one, three), four(one, two, three), stayed(2, 7))
	bothWays(t, four(one, two, three), four(one, two, three), stayed(2, 4, 7))
}

// P13.3 (Channels): channels alike but for their IDs are two, of which each survives for itself.
func TestChannelsAlike(t *testing.T) {
	bothWays(t, four(link(1, 1, 2), link(2, 1, 2)), four(link(2, 1, 2), link(3, 1, 2)), stayed(2))
	bothWays(t, four(link(1, 1, 2), link(2, 2, 1)), four(link(1, 2, 1), link(2, 1, 2)), stayed())
}

// P13.3 (Channels): any of eight channels to any others, ascending.
func TestSetsOfChannels(t *testing.T) {
	chosen := func(set int) (api.Config, []int) {
		c := own(full())
		c.Channels = slices.DeleteFunc(c.Channels, func(x api.Channel) bool { return set>>(x.ID-1)&1 == 0 })
		var l []int
		for _, x := range c.Channels {
			l = append(l, x.ID)
		}
		return c, l
	}
	for one := range 256 {
		for _, two := range []int{0, 1, 0x80, 0x55, 0xaa, 0xf0, 0x3c, 0xff, one, one ^ 0xff} {
			from, _ := chosen(one)
			to, _ := chosen(two)
			_, want := chosen(one & two)
			answered(t, from, to, answers{parts: []int{1, 2, 3, 4, 5, 6}, channels: want})
		}
	}
}

// leaves: ways in which the i-th partition of a valid configuration doesn't survive, though it is in both; where its size is another one, no configuration may follow the other.
func leaves(i int) []func(from, to *api.Config) {
	return []func(from, to *api.Config){
		func(from, to *api.Config) { from.Parts[i].Keep = false },
		func(from, to *api.Config) { to.Parts[i].Keep = false },
		func(from, to *api.Config) { from.Parts[i].Keep, to.Parts[i].Keep = false, false },
		func(from, to *api.Config) { to.Parts[i].Region.Size = 20 },
		func(from, to *api.Config) { from.Parts[i].Region.Size = 20 },
		func(from, to *api.Config) { from.Parts[i].Keep, to.Parts[i].Region.Size = false, 20 },
		func(from, to *api.Config) { to.Parts[i].Keep, from.Parts[i].Region.Size = false, 20 },
	}
}

// P13.3 (Channels, Leaving): a channel one of whose ends leaves, the one or the other, both of whose ends leave, none of whose ends does.
func TestEndsThatLeave(t *testing.T) {
	list := []api.Channel{link(1, 1, 2), link(2, 2, 1), link(3, 2, 3), link(5, 5, 3), link(6, 1, 5)}
	check := func(from, to api.Config, gone ...int) {
		t.Helper()
		want := answers{errno: answersOf(from, to).errno}
		for _, id := range []int{1, 2, 3, 5} {
			if slices.Contains(gone, id) {
				want.leaving = append(want.leaving, id)
			} else {
				want.parts = append(want.parts, id)
			}
		}
		for _, x := range list {
			if !slices.Contains(gone, x.From) && !slices.Contains(gone, x.To) {
				want.channels = append(want.channels, x.ID)
			}
		}
		bothWays(t, from, to, want)
	}
	for i, first := range []int{1, 2, 3, 5} {
		for _, turn := range leaves(i) {
			from, to := four(list...), four(list...)
			turn(&from, &to)
			check(from, to, first)
			for j, second := range []int{1, 2, 3, 5} {
				for _, other := range leaves(j) {
					if i == j {
						continue
					}
					two, three := own(from), own(to)
					other(&two, &three)
					check(two, three, first, second)
				}
			}
		}
	}
}

// P13.3 (Channels): an end that is not in the other configuration, and so neither are its channels.
func TestEndsThatAreGone(t *testing.T) {
	from := four(link(1, 1, 2), link(2, 2, 3), link(3, 3, 5), link(4, 5, 1))
	to := with(from, func(c *api.Config) {
		c.Parts = slices.Delete(c.Parts, 1, 2)
		c.Channels = slices.Delete(c.Channels, 0, 2)
	})
	answered(t, from, to, answers{parts: []int{1, 3, 5}, channels: []int{3, 4}, leaving: []int{2}})
	answered(t, to, from, answers{parts: []int{1, 3, 5}, channels: []int{3, 4}})
}

// P13.1: channels that differ, or have gone, keep no configuration from following.
func TestChannelsAreNoReason(t *testing.T) {
	for _, l := range [][]api.Channel{nil, {link(1, 2, 1)}, {link(1, 1, 2), link(2, 1, 3)}, {{ID: 1, From: 1, To: 2, Cap: 1, Size: 1}}} {
		bothWays(t, four(), four(l...), stayed())
	}
}
