package schedule_test

import (
	"slices"
	"testing"

	"citadel/api"
	"citadel/schedule"
)

func ticks(t *testing.T, l []api.Window, part, want int) {
	t.Helper()
	if n := schedule.Ticks(l, part); n != want {
		t.Errorf("Ticks(%v, %d) = %d, want %d", l, part, n, want)
	}
}

func whole(t *testing.T, l []api.Window, want ...int) {
	t.Helper()
	if got := schedule.Whole(l); !slices.Equal(got, want) {
		t.Errorf("Whole(%v) = %v, want %v", l, got, want)
	}
}

// P9.3 (Ticks): the chapter's examples, and partitions that no window names.
func TestTicksExamples(t *testing.T) {
	for part, want := range map[int]int{1: 3, 0: 2, 2: 1, 3: 0, 4: 0, 5: 0, 6: 0, 7: 0, 8: 0, -1: 0, -2: 0} {
		ticks(t, example(), part, want)
	}
}

// P9.3 (Ticks): partitions with several windows, one that has the whole frame, and ticks of none.
func TestTicks(t *testing.T) {
	ticks(t, list(2, 1, 3, 1), 1, 5)
	ticks(t, list(2, 1, 3, 1), 0, 0)
	ticks(t, list(2, 1, 3, 2, 4, 1), 1, 6)
	ticks(t, list(2, 1, 3, 2, 4, 1), 2, 3)
	ticks(t, list(2, 0, 1, 4, 3, 0), 0, 5)
	ticks(t, list(64, 6), 6, 64)
	ticks(t, list(64, 6), 0, 0)
	ticks(t, list(64, 0), 0, 64)
	ticks(t, equal(12, 5, 3), 3, 60)
	ticks(t, list(1, 6), 6, 1)
	for part := -3; part < 10; part++ {
		for _, l := range valid() {
			want := 0
			for _, now := range frame(l) {
				if now.part == part {
					want++
				}
			}
			ticks(t, l, part, want)
		}
	}
}

// P9.3 (Ticks, Whole): an invalid schedule has no ticks, not even those of the windows that are right.
func TestTicksOfInvalid(t *testing.T) {
	for _, l := range invalid() {
		for part := -2; part <= 9; part++ {
			ticks(t, l, part, 0)
		}
		for _, w := range l[:min(len(l), 20)] {
			ticks(t, l, w.Part, 0)
		}
		if got := schedule.Whole(l); got != nil {
			t.Errorf("Whole(%v) = %v", l, got)
		}
	}
}

// P9.3 (Ticks): partitions at their least and greatest, and those that become small ones where they are cut.
func TestTicksGreatest(t *testing.T) {
	for _, part := range greatest() {
		for _, l := range valid() {
			ticks(t, l, part, 0)
			ticks(t, l, -part, 0)
		}
	}
}

// P9.3 (Whole): the chapter's example, windows of the same partition, and windows at the edges.
func TestWhole(t *testing.T) {
	whole(t, example(), 1, 1, 1, 0, 0, 2)
	whole(t, list(1, 0), 0)
	whole(t, list(1, 6), 6)
	whole(t, list(2, 1, 3, 1), 1, 1, 1, 1, 1)
	whole(t, list(2, 1, 3, 2, 1, 1), 1, 1, 2, 2, 2, 1)
	whole(t, list(1, 0, 1, 4, 2, 0), 0, 4, 0, 0)
	whole(t, list(64, 5), slices.Repeat([]int{5}, 64)...)
	whole(t, list(63, 0, 1, 2), append(make([]int, 63), 2)...)
	whole(t, equal(12, 1, 3), 3, 3, 3, 3, 3, 3, 3, 3, 3, 3, 3, 3)
	for _, l := range valid() {
		var want []int
		for _, now := range frame(l) {
			want = append(want, now.part)
		}
		whole(t, l, want...)
	}
}
