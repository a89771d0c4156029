package valid_test

import (
	"slices"
	"testing"

	"citadel/api"
	"citadel/valid"
)

// P12.1: no windows, as many as there may be, and more.
func TestCountOfWindows(t *testing.T) {
	for n := range 20 {
		c := held(1, 2)
		c.Windows = nil
		for i := range n {
			c.Windows = append(c.Windows, api.Window{Len: 1 + i%2, Part: i % 3})
		}
		if 1 <= n && n <= 12 {
			found(t, c)
		} else {
			found(t, c, api.ErrSchedule)
		}
	}
}

// P12.1: frames of one tick to one of 64, and longer ones, in one window and in more.
func TestTicks(t *testing.T) {
	for n := -3; n <= 70; n++ {
		for _, part := range []int{0, 1} {
			c := held(1)
			c.Windows = []api.Window{{Len: n, Part: part}}
			if 1 <= n && n <= 64 {
				found(t, c)
			} else {
				found(t, c, api.ErrSchedule)
			}
			for _, other := range []int{1, 30, 63} {
				c.Windows = []api.Window{{Len: n, Part: 1}, {Len: other, Part: part}}
				if 1 <= n && n+other <= 64 {
					found(t, c)
				} else {
					found(t, c, api.ErrSchedule)
				}
			}
		}
	}
}

// subsets returns all ascending lists of IDs from 1 to 6 but the empty one.
func subsets() [][]int {
	var l [][]int
	for set := 1; set < 64; set++ {
		var ids []int
		for id := 1; id <= 6; id++ {
			if set>>(id-1)&1 == 1 {
				ids = append(ids, id)
			}
		}
		l = append(l, ids)
	}
	return l
}

// P12.1: a window of nobody, of a partition that is there, of one that is not, of a negative one, beside whichever partitions.
func TestWindowsOf(t *testing.T) {
	for _, ids := range subsets() {
		for id := -2; id <= 9; id++ {
			c := held(ids...)
			c.Windows = []api.Window{{Len: 2, Part: id}}
			if id == 0 || slices.Contains(ids, id) {
				found(t, c)
			} else {
				found(t, c, api.ErrSchedule)
			}
		}
	}
}

// P12.1: a window that is wrong, at every place among others.
func TestWrongWindowAnywhere(t *testing.T) {
	for _, wrong := range []api.Window{{Len: 1, Part: 3}, {Len: 1, Part: 6}, {Len: 1, Part: -1}, {Len: 1, Part: 7}, {Len: 0, Part: 1}, {Len: 0}, {Len: -1}, {Len: 65}} {
		for at := range len(some().Windows) + 1 {
			c := some()
			c.Windows = slices.Insert(c.Windows, at, wrong)
			found(t, c, api.ErrSchedule)
			c = full()
			c.Windows[at] = wrong
			want := []api.Errno{api.ErrSchedule}
			// full has all partitions from 1 to 6.
			if wrong.Len == 1 && 1 <= wrong.Part && wrong.Part <= 6 {
				want = nil
			}
			found(t, c, want...)
		}
	}
}

// P12.1: a window is of one of the partitions even where these are wrong: too many, out of order, the same, with invalid regions.
func TestWindowsOfWrongParts(t *testing.T) {
	for _, ids := range [][]int{{1, 1, 2, 3, 4, 5, 6}, {6, 5}, {6, 6}, {1, 2, 3, 4, 5, 5, 5, 5, 6}, {0, 6}, {7, 6}, {6, 7}, {-3, 6}} {
		c := held(ids...)
		c.Windows = []api.Window{{Len: 1, Part: 6}}
		found(t, c, api.ErrParts)
		c.Parts[slices.Index(ids, 6)].Region = api.Region{Base: 4096, Size: 16}
		found(t, c, api.ErrParts, api.ErrRegion)
		c.Parts = slices.DeleteFunc(c.Parts, func(p api.Partition) bool { return p.ID == 6 })
		found(t, c, faultsOf(c)...)
		if e := valid.Check(c); e != api.ErrSchedule {
			t.Errorf("Check of %v without 6 = %d", ids, e)
		}
	}
}

// P12.1: a window of a partition whose ID is not from 1 to 6 is wrong, whether that partition is there or not.
func TestWindowsOfWrongIDs(t *testing.T) {
	for _, id := range []int{-1, 7, 8, 1 << 32} {
		c := held(id)
		found(t, c, api.ErrParts)
		c.Windows[0].Part = id
		found(t, c, api.ErrSchedule, api.ErrParts)
	}
	// A window of 0 is nobody's, also where a partition is called so.
	found(t, held(0), api.ErrParts)
	found(t, held(0, 1), api.ErrParts)
}
