package schedule_test

import (
	"math"
	"testing"

	"citadel/api"
	"citadel/schedule"
)

func at(t *testing.T, l []api.Window, now int, window, part, first, left int) {
	t.Helper()
	want := schedule.Slot{Window: window, Part: part, First: first, Left: left}
	if s, e := schedule.At(l, now); s != want || e != api.OK {
		t.Errorf("At(%v, %d) = %v, %d, want %v", l, now, s, e, want)
	}
}

func refused(t *testing.T, l []api.Window, now int) {
	t.Helper()
	if s, e := schedule.At(l, now); s != (schedule.Slot{}) || e != api.ErrSchedule {
		t.Errorf("At(%v, %d) = %v, %d", l, now, s, e)
	}
}

// P9.2 (At): the chapter's examples.
func TestAtExamples(t *testing.T) {
	at(t, example(), 0, 0, 1, 0, 3)
	at(t, example(), 1, 0, 1, 0, 2)
	at(t, example(), 2, 0, 1, 0, 1)
	at(t, example(), 3, 1, 0, 3, 2)
	at(t, example(), 4, 1, 0, 3, 1)
	at(t, example(), 5, 2, 2, 5, 1)
	refused(t, example(), 6)
	refused(t, example(), -1)
	if api.ErrSchedule != 90 {
		t.Errorf("ErrSchedule is %d", api.ErrSchedule)
	}
}

// P9.2 (At): the first tick, the last one and those beside them, in windows at the edges.
func TestAtEdges(t *testing.T) {
	one := list(64, 6)
	at(t, one, 0, 0, 6, 0, 64)
	at(t, one, 1, 0, 6, 0, 63)
	at(t, one, 63, 0, 6, 0, 1)
	refused(t, one, 64)
	at(t, list(1, 0), 0, 0, 0, 0, 1)
	refused(t, list(1, 0), 1)
	refused(t, list(1, 0), -1)
	for i := range 12 {
		at(t, equal(12, 1, 4), i, i, 4, i, 1)
		at(t, equal(12, 5, 2), 5*i, i, 2, 5*i, 5)
		at(t, equal(12, 5, 2), 5*i+4, i, 2, 5*i, 1)
	}
	refused(t, equal(12, 1, 4), 12)
	refused(t, equal(12, 5, 2), 60)
	at(t, list(63, 1, 1, 2), 62, 0, 1, 0, 1)
	at(t, list(63, 1, 1, 2), 63, 1, 2, 63, 1)
	at(t, list(1, 2, 63, 1), 0, 0, 2, 0, 1)
	at(t, list(1, 2, 63, 1), 1, 1, 1, 1, 63)
}

// P9.2 (At): windows of the same partition stay apart, one behind the other and with another one between them.
func TestAtSamePartition(t *testing.T) {
	behind := list(2, 1, 3, 1)
	at(t, behind, 1, 0, 1, 0, 1)
	at(t, behind, 2, 1, 1, 2, 3)
	at(t, behind, 4, 1, 1, 2, 1)
	between := list(2, 1, 3, 2, 4, 1)
	at(t, between, 0, 0, 1, 0, 2)
	at(t, between, 2, 1, 2, 2, 3)
	at(t, between, 5, 2, 1, 5, 4)
	at(t, between, 8, 2, 1, 5, 1)
	none := list(2, 0, 1, 0)
	at(t, none, 1, 0, 0, 0, 1)
	at(t, none, 2, 1, 0, 2, 1)
}

// P9.2 (At): every tick of valid schedules, and those around the frame.
func TestAtEveryTick(t *testing.T) {
	for _, l := range valid() {
		all := frame(l)
		for i, want := range all {
			at(t, l, i, want.window, want.part, want.first, want.left)
		}
		for off := range 200 {
			refused(t, l, len(all)+off)
			refused(t, l, -1-off)
		}
	}
}

// P9.2 (At): invalid schedules have no ticks, not even those of the windows that are right.
func TestAtOfInvalid(t *testing.T) {
	for _, l := range invalid() {
		for now := -2; now <= 70; now++ {
			refused(t, l, now)
		}
		refused(t, l, math.MinInt)
		refused(t, l, math.MaxInt)
		refused(t, l, math.MaxInt-1)
	}
}

// P9.2 (At): ticks at their least and greatest, and those that become ticks of the frame where they are cut.
func TestAtGreatest(t *testing.T) {
	for _, l := range [][]api.Window{example(), list(64, 1), list(1, 2), equal(12, 5, 1)} {
		for _, now := range greatest() {
			refused(t, l, now)
			refused(t, l, -now)
		}
	}
}
