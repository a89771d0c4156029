package valid_test

import (
	"slices"
	"testing"

	"citadel/api"
)

// linked returns a valid configuration of the partitions 1, 2 and 5, but with these channels.
func linked(l ...api.Channel) api.Config {
	c := some()
	c.Channels = l
	return c
}

// links returns channels with these IDs.
func links(ids ...int) []api.Channel {
	var l []api.Channel
	for i, id := range ids {
		l = append(l, link(id, []int{1, 2, 5}[i%3], []int{2, 5, 1}[i%3]))
	}
	return l
}

// P12.1: no channels, 8 of them, 9 and more.
func TestCountOfChannels(t *testing.T) {
	var ids []int
	for n := range 20 {
		if n <= 8 {
			found(t, linked(links(ids...)...))
		} else {
			found(t, linked(links(ids...)...), api.ErrChannel)
		}
		ids = append(ids, n+1)
	}
	found(t, linked(links(0, 1, 2, 3, 4, 5, 6, 7, 8)...), api.ErrChannel)
	found(t, linked(links(1, 2, 3, 4, 5, 6, 7, 8, 8)...), api.ErrChannel)
	found(t, linked(links(1, 1, 2, 3, 4, 5, 6, 7, 8)...), api.ErrChannel)
}

// P12.1: channels' IDs that ascend, that are the same, that fall, and those from 0 to 9; each list of up to three of them.
func TestChannelIDs(t *testing.T) {
	for a := range 10 {
		channelIDs(t, a)
		for b := range 10 {
			channelIDs(t, a, b)
			for c := range 10 {
				channelIDs(t, a, b, c)
			}
		}
	}
}

func channelIDs(t *testing.T, l ...int) {
	t.Helper()
	if ascends(l, 8) {
		found(t, linked(links(l...)...))
	} else {
		found(t, linked(links(l...)...), api.ErrChannel)
	}
}

// P12.1: IDs that are the same or fall at one place only.
func TestChannelIDsAtEachPlace(t *testing.T) {
	for at := range 7 {
		l := []int{1, 2, 3, 4, 5, 6, 7, 8}
		l[at+1] = l[at]
		found(t, linked(links(l...)...), api.ErrChannel)
		l = []int{1, 2, 3, 4, 5, 6, 7, 8}
		l[at], l[at+1] = l[at+1], l[at]
		found(t, linked(links(l...)...), api.ErrChannel)
	}
}

// P12.1: a channel that is invalid in one field, at every place among others.
func TestInvalidChannel(t *testing.T) {
	for at := range 3 {
		for _, turn := range []func(x *api.Channel){
			func(x *api.Channel) { x.ID = 0 },
			func(x *api.Channel) { x.ID = -1 },
			func(x *api.Channel) { x.ID = 9 },
			func(x *api.Channel) { x.To = x.From },
			func(x *api.Channel) { x.From = x.To },
			func(x *api.Channel) { x.From = 0 },
			func(x *api.Channel) { x.To = 0 },
			func(x *api.Channel) { x.From = -1 },
			func(x *api.Channel) { x.To = 7 },
			func(x *api.Channel) { x.Cap = 0 },
			func(x *api.Channel) { x.Cap = 5 },
			func(x *api.Channel) { x.Cap = -1 },
			func(x *api.Channel) { x.Size = 0 },
			func(x *api.Channel) { x.Size = 17 },
			func(x *api.Channel) { x.Size = -1 },
			func(x *api.Channel) { *x = api.Channel{} },
		} {
			c := some()
			turn(&c.Channels[at])
			found(t, c, api.ErrChannel)
		}
	}
}

// P12.1: each pair of From and To beside whichever partitions.
func TestEnds(t *testing.T) {
	for _, ids := range subsets() {
		for from := -1; from <= 8; from++ {
			for to := -1; to <= 8; to++ {
				c := held(ids...)
				c.Channels = []api.Channel{link(1, from, to)}
				if from != to && slices.Contains(ids, from) && slices.Contains(ids, to) {
					found(t, c)
				} else {
					found(t, c, api.ErrChannel)
				}
			}
		}
	}
}

// P12.1: From or To of a partition that is not there, at every place among others.
func TestEndsNotThere(t *testing.T) {
	for _, wrong := range []api.Channel{link(5, 1, 3), link(5, 3, 1), link(5, 6, 2), link(5, 2, 6), link(5, 3, 4)} {
		for at := range 8 {
			l := links(1, 2, 3, 4, 5, 6, 7, 8)
			l[at] = wrong
			l[at].ID = at + 1
			found(t, linked(l...), api.ErrChannel)
		}
	}
}

// P12.1: an end is one of the partitions even where these are wrong: too many, out of order, the same, with invalid regions.
func TestEndsOfWrongParts(t *testing.T) {
	for _, ids := range [][]int{{1, 1, 2, 3, 4, 5, 6}, {6, 1}, {1, 6, 6}, {1, 2, 3, 4, 5, 5, 5, 5, 6}, {0, 1, 6}, {7, 6, 1}, {1, 6, 7}} {
		c := held(ids...)
		c.Channels = []api.Channel{link(1, 1, 6), link(2, 6, 1)}
		found(t, c, api.ErrParts)
		c.Parts[slices.Index(ids, 6)].Region = api.Region{Base: 4096, Size: 16}
		found(t, c, api.ErrParts, api.ErrRegion)
	}
}

// P12.1: a channel of a partition whose ID is not from 1 to 6 is wrong, though that partition is there.
func TestEndsOfWrongIDs(t *testing.T) {
	for _, id := range []int{-1, 0, 7, 8} {
		c := held(1, id)
		c.Channels = []api.Channel{link(1, 1, id)}
		found(t, c, api.ErrParts, api.ErrChannel)
		c.Channels = []api.Channel{link(1, id, 1)}
		found(t, c, api.ErrParts, api.ErrChannel)
	}
}

// P12.1: channels between the same partitions, in both directions, without a window for them.
func TestManyBetweenTwo(t *testing.T) {
	c := held(3, 4)
	for id := 1; id <= 8; id++ {
		c.Channels = append(c.Channels, link(id, 3+id%2, 4-id%2))
		found(t, c)
	}
}
