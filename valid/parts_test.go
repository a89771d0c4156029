package valid_test

import (
	"slices"
	"testing"

	"citadel/api"
)

// P12.1: no partitions, as many as there may be, and more, with IDs that ascend.
func TestCountOfParts(t *testing.T) {
	found(t, held(), api.ErrParts)
	for n := 1; n <= 12; n++ {
		var ids []int
		for id := 1; id <= n; id++ {
			ids = append(ids, id)
		}
		if n <= 6 {
			found(t, held(ids...))
		} else {
			found(t, held(ids...), api.ErrParts)
		}
	}
	found(t, held(1, 2, 3, 4, 5, 6, 6), api.ErrParts)
	found(t, held(1, 1, 2, 3, 4, 5, 6), api.ErrParts)
	found(t, held(0, 1, 2, 3, 4, 5, 6), api.ErrParts)
	found(t, held(0, 1, 2, 3, 4, 5), api.ErrParts)
	found(t, held(2, 3, 4, 5, 6, 7), api.ErrParts)
}

// P12.1: without partitions every window of one and every channel is wrong, too.
func TestNoParts(t *testing.T) {
	c := some()
	c.Parts = nil
	found(t, c, api.ErrSchedule, api.ErrParts, api.ErrChannel)
	c.Windows = []api.Window{{Len: 64}}
	found(t, c, api.ErrParts, api.ErrChannel)
	c.Channels = nil
	found(t, c, api.ErrParts)
}

// P12.1: IDs of 0, 1, 6, 7 and others; each list of up to three of them.
func TestIDs(t *testing.T) {
	for a := -2; a <= 9; a++ {
		ids(t, a)
		for b := -2; b <= 9; b++ {
			ids(t, a, b)
			for c := -2; c <= 9; c++ {
				ids(t, a, b, c)
			}
		}
	}
}

func ids(t *testing.T, l ...int) {
	t.Helper()
	if ascends(l, 6) {
		found(t, held(l...))
	} else {
		found(t, held(l...), api.ErrParts)
	}
}

// P12.1: IDs that are the same or fall at one place only.
func TestIDsAtEachPlace(t *testing.T) {
	for at := range 5 {
		l := []int{1, 2, 3, 4, 5, 6}
		l[at+1] = l[at]
		found(t, held(l...), api.ErrParts)
		l = []int{1, 2, 3, 4, 5, 6}
		l[at], l[at+1] = l[at+1], l[at]
		found(t, held(l...), api.ErrParts)
	}
	for _, l := range subsets() {
		found(t, held(l...))
		if len(l) > 1 {
			slices.Reverse(l)
			found(t, held(l...), api.ErrParts)
		}
	}
}

// invalid: regions that are wrong in Base, in Size, or in both.
func invalid() []api.Region {
	var l []api.Region
	for _, x := range [][2]int{{0, 0}, {0, 12}, {0, 15}, {0, 17}, {0, 18}, {0, 513}, {0, 516}, {0, -16}, {2, 16}, {1, 16}, {-4, 16}, {-16, 16}, {-4, 20}, {4084, 16}, {4096, 16}, {3588, 512}, {4095, 1}, {2048, 1024}, {0, 4096}, {-2, 2}} {
		l = append(l, api.Region{Base: x[0], Size: x[1]})
	}
	return l
}

// P12.1: a region that is invalid, alone and beside valid ones at every place.
func TestInvalidRegion(t *testing.T) {
	for _, r := range invalid() {
		c := example()
		c.Parts[0].Region = r
		found(t, c, api.ErrRegion)
		for at := range 6 {
			c := full()
			c.Parts[at].Region, c.Parts[at].Image = r, nil
			found(t, c, api.ErrRegion)
		}
		c = full()
		for i := range c.Parts {
			c.Parts[i].Region = r
		}
		found(t, c, api.ErrRegion)
	}
}

// P12.1: images of no bytes, as long as the region, one byte longer, and far longer, at every place.
func TestImages(t *testing.T) {
	for _, size := range []int{16, 20, 64, 508, 512} {
		for at := range 3 {
			for _, n := range []int{0, 1, size - 1, size, size + 1, size + 4, 2 * size, 65536, 65537} {
				c := held(1, 3, 6)
				for i := range c.Parts {
					c.Parts[i] = part(c.Parts[i].ID, 600*i, size, size)
				}
				c.Parts[at].Image = make([]byte, n)
				if n <= size {
					found(t, c)
				} else {
					found(t, c, api.ErrRegion)
				}
			}
		}
	}
}

// P12.1: an image is held against the size of its own region, not against that of another one.
func TestImageOfOwnRegion(t *testing.T) {
	c := held(1, 2)
	c.Parts = []api.Partition{part(1, 0, 32, 17), part(2, 64, 16, 0)}
	found(t, c)
	c.Parts = []api.Partition{part(1, 0, 16, 17), part(2, 64, 32, 0)}
	found(t, c, api.ErrRegion)
	c.Parts = []api.Partition{part(1, 64, 16, 0), part(2, 0, 32, 17)}
	found(t, c)
	c.Parts = []api.Partition{part(1, 64, 32, 0), part(2, 0, 16, 17)}
	found(t, c, api.ErrRegion)
	c.Parts = []api.Partition{part(1, 4080, 16, 17), part(2, 0, 512, 512)}
	found(t, c, api.ErrRegion)
}

// P12.1: regions that touch, that share bytes at either end, that are the same, one of which holds the other, whichever stands first.
func TestTwoRegions(t *testing.T) {
	for _, x := range []struct {
		a, b api.Region
		want []api.Errno
	}{
		{api.Region{Base: 0, Size: 16}, api.Region{Base: 16, Size: 16}, nil},
		{api.Region{Base: 0, Size: 512}, api.Region{Base: 512, Size: 512}, nil},
		{api.Region{Base: 0, Size: 16}, api.Region{Base: 4080, Size: 16}, nil},
		{api.Region{Base: 0, Size: 20}, api.Region{Base: 16, Size: 16}, []api.Errno{api.ErrOverlap}},
		{api.Region{Base: 0, Size: 16}, api.Region{Base: 12, Size: 16}, []api.Errno{api.ErrOverlap}},
		{api.Region{Base: 0, Size: 16}, api.Region{Base: 0, Size: 16}, []api.Errno{api.ErrOverlap}},
		{api.Region{Base: 3584, Size: 512}, api.Region{Base: 3584, Size: 512}, []api.Errno{api.ErrOverlap}},
		{api.Region{Base: 0, Size: 16}, api.Region{Base: 0, Size: 20}, []api.Errno{api.ErrOverlap}},
		{api.Region{Base: 0, Size: 512}, api.Region{Base: 248, Size: 16}, []api.Errno{api.ErrOverlap}},
		{api.Region{Base: 0, Size: 512}, api.Region{Base: 496, Size: 16}, []api.Errno{api.ErrOverlap}},
		// Only an invalid region shares one byte alone with another.
		{api.Region{Base: 0, Size: 17}, api.Region{Base: 16, Size: 16}, []api.Errno{api.ErrRegion}},
		{api.Region{Base: 0, Size: 16}, api.Region{Base: 15, Size: 16}, []api.Errno{api.ErrRegion}},
		{api.Region{Base: 0, Size: 12}, api.Region{Base: 0, Size: 16}, []api.Errno{api.ErrRegion}},
		{api.Region{Base: 0, Size: 1024}, api.Region{Base: 0, Size: 16}, []api.Errno{api.ErrRegion}},
		{api.Region{Base: 2, Size: 16}, api.Region{Base: 2, Size: 16}, []api.Errno{api.ErrRegion}},
		{api.Region{Base: -4, Size: 20}, api.Region{Base: 0, Size: 16}, []api.Errno{api.ErrRegion}},
	} {
		for range 2 {
			c := held(1, 2)
			c.Parts[0].Region, c.Parts[1].Region = x.a, x.b
			found(t, c, x.want...)
			x.a, x.b = x.b, x.a
		}
	}
}

// P12.1: every pair of small regions around each other.
func TestPairsOfRegions(t *testing.T) {
	for base := range 64 {
		for size := 12; size <= 40; size++ {
			c := held(2, 5)
			c.Parts[0].Region, c.Parts[1].Region = api.Region{Base: 20, Size: 24}, api.Region{Base: base, Size: size}
			found(t, c, faultsOf(c)...)
		}
	}
}

// P12.1: an overlap of each two of six regions, and of all of them, is one fault.
func TestOverlapAnywhere(t *testing.T) {
	for i := range 6 {
		for j := range 6 {
			if i == j {
				continue
			}
			c := full()
			c.Parts[i].Region.Base = c.Parts[j].Region.Base
			found(t, c, api.ErrOverlap)
			c = full()
			c.Parts[i] = part(i+1, c.Parts[j].Region.Base+496, 16, 16)
			found(t, c, api.ErrOverlap)
		}
	}
	c := full()
	for i := range c.Parts {
		c.Parts[i].Region.Base = 0
	}
	found(t, c, api.ErrOverlap)
}

// P12.1: an overlap shows beside another region that is invalid, wherever that stands.
func TestOverlapBesideInvalid(t *testing.T) {
	for _, r := range invalid() {
		for at := range 3 {
			c := held(1, 3, 4)
			for i := range c.Parts {
				c.Parts[i].Region = api.Region{Base: 100 + 4*i, Size: 16}
			}
			c.Parts[at].Region = r
			found(t, c, api.ErrRegion, api.ErrOverlap)
			c.Parts[(at+1)%3].Region.Base = 1000
			found(t, c, api.ErrRegion)
		}
	}
}

// P12.1: a region whose image is too long is valid all the same, so that its overlap shows.
func TestOverlapAndImage(t *testing.T) {
	c := held(1, 2)
	c.Parts = []api.Partition{part(1, 0, 16, 17), part(2, 12, 16, 0)}
	found(t, c, api.ErrRegion, api.ErrOverlap)
	c.Parts[0].Image = nil
	found(t, c, api.ErrOverlap)
	c.Parts[1].Region.Base = 16
	found(t, c)
}

// P12.1: regions and images of partitions beyond the sixth count.
func TestPartsBeyondSixth(t *testing.T) {
	c := held(1, 2, 3, 4, 5, 6, 7, 8)
	found(t, c, api.ErrParts)
	c.Parts[7].Region = c.Parts[6].Region
	found(t, c, api.ErrParts, api.ErrOverlap)
	c.Parts[7].Region.Size = 12
	found(t, c, api.ErrParts, api.ErrRegion)
	c = held(1, 2, 3, 4, 5, 6, 7, 8)
	c.Parts[7].Image = make([]byte, 17)
	found(t, c, api.ErrParts, api.ErrRegion)
}
