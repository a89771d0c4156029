package channel_test

import (
	"slices"
	"testing"

	"citadel/api"
	"citadel/channel"
)

// channels returns ordinary channels with these IDs.
func channels(ids ...int) []api.Channel {
	var l []api.Channel
	for _, id := range ids {
		l = append(l, made(id, 1, 2, 1, 4))
	}
	return l
}

func all(t *testing.T, l []api.Channel, want api.Errno) {
	t.Helper()
	if e := channel.All(l); e != want {
		t.Errorf("All(%v) = %d, want %d", l, e, want)
	}
}

// P10.5 (All): no channels, one, some whose IDs ascend one by one or with gaps.
func TestAll(t *testing.T) {
	for _, ids := range [][]int{nil, {}, {1}, {8}, {5}, {1, 2}, {1, 8}, {7, 8}, {2, 5, 6}, {1, 3, 5, 7}, {2, 4, 6, 8}, {1, 2, 3, 4, 5, 6, 7, 8}, {1, 2, 3, 4, 6, 7, 8}} {
		all(t, channels(ids...), api.OK)
	}
}

// P10.5 (All): IDs that are the same, that descend, and that stop ascending at some place.
func TestAllNotAscending(t *testing.T) {
	for _, ids := range [][]int{{1, 1}, {8, 8}, {2, 1}, {8, 1}, {8, 7}, {1, 2, 2}, {1, 1, 2}, {1, 2, 1}, {2, 1, 3}, {1, 3, 2}, {3, 2, 1}, {1, 2, 3, 4, 5, 6, 8, 7}, {1, 2, 3, 4, 5, 6, 7, 7}, {1, 2, 3, 4, 5, 6, 7, 8, 8}, {1, 2, 3, 4, 5, 6, 7, 8, 1}, {5, 6, 7, 1, 2, 3}, {4, 4, 4, 4}} {
		all(t, channels(ids...), api.ErrChannel)
	}
	for a := 1; a <= 8; a++ {
		for b := 1; b <= 8; b++ {
			for c := 1; c <= 8; c++ {
				want := api.ErrChannel
				if a < b && b < c {
					want = api.OK
				}
				all(t, channels(a, b, c), want)
			}
		}
	}
}

// P10.5 (All), P0.2: one channel that is invalid, at every place among others, is named ahead of the order of their IDs.
func TestAllInvalid(t *testing.T) {
	for _, ids := range [][]int{nil, {1}, {1, 2, 3}, {1, 4, 8}, {1, 1}, {3, 2, 1}, {8, 8, 8, 8}} {
		for at := range len(ids) + 1 {
			for _, q := range invalidQueues() {
				if !isValid(q.Channel) {
					all(t, slices.Insert(channels(ids...), at, q.Channel), api.ErrArg)
				}
			}
		}
	}
	all(t, channels(0, 1, 2), api.ErrArg)
	all(t, channels(1, 2, 9), api.ErrArg)
	all(t, channels(9), api.ErrArg)
	all(t, channels(1, 2, 3, 4, 5, 6, 7, 8, 9), api.ErrArg)
}

// P10.5 (All): channels whose other fields are at the edges; the order of these does not matter, nor that they are the same.
func TestAllOtherFields(t *testing.T) {
	all(t, []api.Channel{made(1, 6, 5, 4, 16), made(2, 1, 2, 1, 1), made(3, 1, 2, 1, 1), made(8, 2, 1, 4, 1)}, api.OK)
	all(t, []api.Channel{made(1, 1, 2, 1, 1), made(2, 6, 5, 4, 16)}, api.OK)
	all(t, []api.Channel{made(2, 1, 2, 1, 1), made(1, 2, 3, 2, 2)}, api.ErrChannel)
	all(t, []api.Channel{made(1, 1, 2, 1, 1), made(1, 2, 3, 2, 2)}, api.ErrChannel)
}
