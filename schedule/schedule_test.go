package schedule_test

import (
	"math"
	"slices"
	"testing"

	"citadel/api"
	"citadel/schedule"
)

// list returns the windows whose Len and Part are told in turn.
func list(numbers ...int) []api.Window {
	var l []api.Window
	for i := 0; i < len(numbers); i += 2 {
		l = append(l, api.Window{Len: numbers[i], Part: numbers[i+1]})
	}
	return l
}

// example: the windows of the chapter's examples.
func example() []api.Window { return list(3, 1, 2, 0, 1, 2) }

// equal returns so many windows, each of that Len and Part.
func equal(count, length, part int) []api.Window {
	return slices.Repeat(list(length, part), count)
}

// A tick of the frame, and where it stands in its window: nothing of the program's own is asked for it.
type tick struct{ window, part, first, left int }

// frame returns the ticks of the schedule, one by one; none if it is invalid. A window of more than 64 ticks is not written out.
func frame(l []api.Window) []tick {
	var all []tick
	for i, w := range l {
		if w.Len <= 0 || w.Len > 64 || w.Part < 0 || w.Part > 6 || i > 11 {
			return nil
		}
		first := len(all)
		for left := w.Len; left > 0; left-- {
			all = append(all, tick{i, w.Part, first, left})
		}
	}
	if len(all) > 64 {
		return nil
	}
	return all
}

// valid: schedules at the edges, and ordinary ones.
func valid() [][]api.Window {
	return [][]api.Window{
		example(), list(1, 0), list(1, 1), list(1, 6), list(2, 3), list(63, 1), list(64, 0), list(64, 1), list(64, 6),
		list(63, 1, 1, 2), list(1, 2, 63, 1), list(32, 1, 32, 2), list(1, 0, 62, 6, 1, 0), list(31, 5, 1, 0, 32, 5),
		equal(12, 1, 0), equal(12, 1, 6), equal(12, 5, 3), append(equal(11, 5, 1), list(9, 2)...), append(list(53, 4), equal(11, 1, 3)...),
		list(2, 1, 3, 1), list(2, 1, 3, 2, 4, 1), list(2, 0, 3, 0), list(2, 0, 1, 4, 3, 0), list(1, 1, 1, 2, 1, 1, 1, 2, 1, 1),
		list(1, 1, 2, 2, 3, 3, 4, 4, 5, 5, 6, 6, 7, 0), list(7, 6, 6, 5, 5, 4, 4, 3, 3, 2, 2, 1, 1, 0),
	}
}

// invalid: schedules behind the edges, with one fault each, and ones whose sums wrap.
func invalid() [][]api.Window {
	l := [][]api.Window{
		nil, {}, equal(13, 1, 0), equal(13, 1, 1), equal(13, 5, 6), equal(14, 1, 2), equal(24, 1, 2), equal(64, 1, 1), equal(65, 1, 1), equal(256, 1, 1), equal(257, 1, 1), equal(268, 0, 1),
		list(0, 1), list(-1, 1), list(65, 1), list(128, 1), list(256, 1), list(257, 1), list(-64, 1), list(0, 0), list(0, 7), list(65, -1),
		list(1, -1), list(1, 7), list(1, 8), list(64, 7), list(1, 255), list(1, 256), list(1, 257), list(1, -255), list(1, -6),
		list(64, 1, 1, 2), list(1, 1, 64, 2), list(32, 1, 33, 1), list(33, 1, 32, 0), list(60, 1, 4, 0, 1, 6), append(equal(11, 5, 1), list(10, 2)...), append(list(54, 4), equal(11, 1, 3)...),
		list(64, 1, 64, 2), equal(12, 64, 1), equal(12, 6, 1), equal(4, 64, 1),
		list(65, 1, -1, 2), list(-1, 1, 65, 2), list(10, 1, -5, 2), list(-5, 1, 10, 2), list(70, 1, -6, 2, 0, 0), list(0, 1, 1, 2), list(1, 2, 0, 1),
		list(math.MaxInt, 1, math.MaxInt, 1, 8, 2), list(math.MinInt, 1, math.MinInt, 1, 6, 2), list(math.MaxInt, 1, math.MinInt, 1, 9, 2), list(1<<62, 1, 1<<62, 1, 1<<62, 1, 1<<62, 1, 5, 1),
		list(1<<32, 1, 5, 1), list(5, 1, 1<<32, 1), list(1<<31, 1, 1<<31, 1, 5, 2),
	}
	for _, x := range greatest() {
		l = append(l, list(x, 1), list(1, x), list(2, 1, x, 2, 3, 3), list(2, 1, 3, x, 4, 2))
	}
	return l
}

// greatest: numbers at their least and greatest, and those that become small ones where they are cut.
func greatest() []int {
	l := []int{math.MinInt, math.MinInt + 1, math.MinInt + 3, math.MinInt + 6, math.MinInt + 64, math.MaxInt, math.MaxInt - 1, math.MaxInt - 6, math.MaxInt - 63, math.MaxInt - 64}
	for _, x := range []int{1 << 7, 1 << 8, 1 << 15, 1 << 16, 1 << 31, 1 << 32, 1 << 48, 1 << 62} {
		for _, off := range []int{-1, 0, 1, 3, 6} {
			l = append(l, x+off, -x+off)
		}
	}
	return l
}

func mayAndFrame(t *testing.T, l []api.Window) {
	t.Helper()
	want := len(frame(l))
	if may := schedule.May(l); may != (want > 0) {
		t.Errorf("May(%v) = %v", l, may)
	}
	if n := schedule.Frame(l); n != want {
		t.Errorf("Frame(%v) = %d, want %d", l, n, want)
	}
}

// P9.1 (May, Frame): the chapter's examples.
func TestExamples(t *testing.T) {
	if l := example(); !schedule.May(l) || schedule.Frame(l) != 6 {
		t.Errorf("%v: %v, %d ticks", l, schedule.May(l), schedule.Frame(l))
	}
	for _, l := range [][]api.Window{nil, {}, list(65, 1), list(65, 0), list(64, 1, 1, 2), list(32, 1, 33, 2), list(0, 1), list(0, 0)} {
		if schedule.May(l) || schedule.Frame(l) != 0 {
			t.Errorf("%v: %v, %d ticks", l, schedule.May(l), schedule.Frame(l))
		}
	}
}

// P9.1 (May, Frame): the edges, and ordinary schedules.
func TestValid(t *testing.T) {
	for _, l := range valid() {
		if !schedule.May(l) {
			t.Errorf("May(%v) = false", l)
		}
		mayAndFrame(t, l)
	}
}

// P9.1 (May, Frame): one step behind each edge, and sums that wrap.
func TestInvalid(t *testing.T) {
	for _, l := range invalid() {
		if schedule.May(l) {
			t.Errorf("May(%v) = true", l)
		}
		mayAndFrame(t, l)
	}
}

// P9.1 (May, Frame): 0 windows, 1, up to 12, and more of them.
func TestHowManyWindows(t *testing.T) {
	for count := range 80 {
		l := equal(count, 1, count%7)
		want := count
		if count > 12 {
			want = 0
		}
		if may, n := schedule.May(l), schedule.Frame(l); may != (want > 0) || n != want {
			t.Errorf("%d windows: %v, %d ticks", count, may, n)
		}
	}
}

// P9.1 (May, Frame): every Len and every Part in and around what is valid.
func TestOneWindow(t *testing.T) {
	for length := -70; length <= 140; length++ {
		for part := -10; part <= 20; part++ {
			want := 0
			if 1 <= length && length <= 64 && 0 <= part && part <= 6 {
				want = length
			}
			if may, n := schedule.May(list(length, part)), schedule.Frame(list(length, part)); may != (want > 0) || n != want {
				t.Errorf("a window of %d ticks of %d: %v, %d ticks", length, part, may, n)
			}
		}
	}
}

// P9.1 (May, Frame): the ticks of two and of three windows in all.
func TestSums(t *testing.T) {
	for a := 0; a <= 66; a++ {
		for b := 0; b <= 66; b++ {
			mayAndFrame(t, list(a, 1, b, 2))
			mayAndFrame(t, list(a, 1, 7, 0, b, 1))
		}
	}
}

// P9.1 (May, Frame): one window that is not right, at every place among others that are.
func TestOneWrongAmongOthers(t *testing.T) {
	wrong := list(0, 1, -1, 1, 65, 1, 1, -1, 1, 7, 54, 1, 0, 0, -10, 6, math.MinInt, 1, math.MaxInt, 1, 1, math.MinInt, 1, math.MaxInt, 1<<32+1, 1, 1, 1<<32+1)
	for _, others := range [][]api.Window{equal(11, 1, 3), list(5, 1, 6, 2), list(11, 0)} {
		for at := range len(others) + 1 {
			for _, w := range wrong {
				l := slices.Insert(slices.Clone(others), at, w)
				if w.Len != 54 && schedule.May(l) {
					t.Errorf("May(%v) = true", l)
				}
				mayAndFrame(t, l)
			}
			mayAndFrame(t, slices.Insert(slices.Clone(others), at, list(53, 0)...))
		}
	}
}
