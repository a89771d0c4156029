package config_test

import (
	"fmt"
	"math"
	"slices"
	"testing"

	"citadel/api"
	"citadel/config"
)

// partIs holds Part to the place in c at which it should find; -1: nowhere.
func partIs(t *testing.T, c api.Config, id, at int) {
	t.Helper()
	var want api.Partition
	if at >= 0 {
		want = c.Parts[at]
	}
	if got, ok := config.Part(c, id); fmt.Sprint(got) != fmt.Sprint(want) || ok != (at >= 0) {
		t.Errorf("Part(%.200s, %d) = %v, %v, want %v", told(c), id, got, ok, want)
	}
}

// channelIs holds Channel to the place in c at which it should find; -1: nowhere.
func channelIs(t *testing.T, c api.Config, id, at int) {
	t.Helper()
	var want api.Channel
	if at >= 0 {
		want = c.Channels[at]
	}
	if got, ok := config.Channel(c, id); got != want || ok != (at >= 0) {
		t.Errorf("Channel(%.200s, %d) = %v, %v, want %v", told(c), id, got, ok, want)
	}
}

// named returns a configuration whose partitions and channels have these IDs, no two of them being the same otherwise.
func named(ids ...int) api.Config {
	c := sized(2, len(ids), len(ids))
	for i, id := range ids {
		c.Parts[i].ID, c.Channels[i].ID = id, id
		c.Parts[i].Image = append(mixed(i, uint32(i)), byte(i))
	}
	return c
}

func find(t *testing.T, id int, ids ...int) {
	t.Helper()
	partIs(t, named(ids...), id, slices.Index(ids, id))
	channelIs(t, named(ids...), id, slices.Index(ids, id))
}

// P11.3 (Part, Channel): an ID that is there once, at each place, and one that is not there.
func TestFind(t *testing.T) {
	for count := range 7 {
		var ids []int
		for i := range count {
			ids = append(ids, 10+3*i)
		}
		for id := range 40 {
			find(t, id, ids...)
			find(t, -id, ids...)
		}
	}
	for id := -1; id < 9; id++ {
		partIs(t, some(), id, slices.Index([]int{1, 2, 4}, id))
		channelIs(t, some(), id, slices.Index([]int{1, 7}, id))
	}
}

// P11.3 (Part, Channel): of an ID that is there more than once the first one counts.
func TestFindFirst(t *testing.T) {
	for _, ids := range [][]int{{1, 1}, {1, 2, 1}, {2, 1, 1}, {2, 1, 2, 1}, {3, 3, 3, 3, 3, 3}, {1, 2, 3, 3, 2, 1}, {0, 0}, {-1, -1, 1, 1}} {
		for id := -2; id < 5; id++ {
			find(t, id, ids...)
		}
	}
}

// P11.3 (Part, Channel): 0 and negative numbers are IDs like others.
func TestFindZeroAndNegative(t *testing.T) {
	for _, id := range []int{0, -1, -7, math.MinInt} {
		find(t, id)
		find(t, id, 1, 2, 3)
		find(t, id, id)
		find(t, id, 1, id, 2)
		find(t, id, 1, id, id)
	}
	partIs(t, api.Config{Parts: []api.Partition{{Keep: true, Image: []byte{5}}}}, 0, 0)
	channelIs(t, api.Config{Channels: []api.Channel{{Cap: 3}}}, 0, 0)
}

// P11.3 (Part, Channel): numbers at their least and at their greatest, none of which is taken for another one.
func TestFindGreatest(t *testing.T) {
	for _, id := range greatest() {
		find(t, id, greatest()...)
		find(t, id, id)
		for _, other := range greatest() {
			find(t, id, other)
			find(t, id, other, id)
		}
	}
}

// P11.3 (Part, Channel): partitions and channels do not stand for each other, and windows for neither.
func TestFindKinds(t *testing.T) {
	c := api.Config{Windows: []api.Window{{Len: 1, Part: 5}}, Parts: []api.Partition{{ID: 1}}, Channels: []api.Channel{{ID: 2, From: 3, To: 4, Cap: 6, Size: 7}}}
	for id := range 9 {
		partIs(t, c, id, slices.Index([]int{1}, id))
		channelIs(t, c, id, slices.Index([]int{2}, id))
	}
}

// P11.3 (Part, Channel): in configurations that are not encodable, too.
func TestFindNotEncodable(t *testing.T) {
	long := make([]int, 1000)
	for i := range long {
		long[i] = i / 2
	}
	for _, id := range []int{-1, 0, 1, 6, 7, 8, 9, 250, 499, 500} {
		find(t, id, long...)
	}
	c := imaged(513, 5000)
	partIs(t, c, 1, 0)
	partIs(t, c, 2, 1)
	partIs(t, c, 3, -1)
}
