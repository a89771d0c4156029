package schedule_test

import (
	"slices"
	"testing"

	"citadel/api"
	"citadel/schedule"
)

// A call of schedule on a list; what it returns is written down as numbers.
type call struct {
	name string
	do   func(l []api.Window) []int
}

func calls() []call {
	l := []call{
		{"May", func(l []api.Window) []int {
			if schedule.May(l) {
				return []int{1}
			}
			return []int{0}
		}},
		{"Frame", func(l []api.Window) []int { return []int{schedule.Frame(l)} }},
		{"Whole", schedule.Whole},
	}
	for _, n := range []int{-1, 0, 1, 2, 5, 6, 7, 63, 64} {
		l = append(l, call{"Ticks", func(l []api.Window) []int { return []int{schedule.Ticks(l, n)} }})
		l = append(l, call{"At", func(l []api.Window) []int {
			s, e := schedule.At(l, n)
			return []int{s.Window, s.Part, s.First, s.Left, int(e)}
		}})
	}
	return l
}

func inputs() [][]api.Window { return append(valid(), invalid()...) }

// P0.1, P0.2: every call returns, whatever it is given; beside an error stands the zero value.
func TestAllArguments(t *testing.T) {
	numbers := append(greatest(), -1, 0, 1, 5, 6, 7, 63, 64, 65)
	for _, l := range inputs() {
		all := frame(l)
		for _, n := range numbers {
			if n < 0 || n >= len(all) {
				refused(t, l, n)
			} else {
				at(t, l, n, all[n].window, all[n].part, all[n].first, all[n].left)
			}
			if got := schedule.Ticks(l, n); got < 0 || got > len(all) {
				t.Errorf("Ticks(%v, %d) = %d", l, n, got)
			}
		}
	}
}

// P0.1: lists far longer than a schedule may be, and windows far longer than a frame.
func TestLongLists(t *testing.T) {
	for _, w := range append(list(1, 1, 64, 2, 0, 0, 1, 7), list(greatest()...)...) {
		long := slices.Repeat([]api.Window{w}, 1<<18)
		for _, c := range calls() {
			if !slices.Equal(c.do(long), c.do(nil)) {
				t.Errorf("%s of many windows %v = %v", c.name, w, c.do(long))
			}
		}
	}
}

// P0.3: calls, those that are refused among them, change nothing that later ones answer.
func TestNothingKept(t *testing.T) {
	for range 3 {
		for _, l := range inputs() {
			for _, c := range calls() {
				c.do(l)
			}
			at(t, example(), 3, 1, 0, 3, 2)
			refused(t, example(), 6)
			ticks(t, example(), 1, 3)
			whole(t, example(), 1, 1, 1, 0, 0, 2)
			if schedule.Frame(example()) != 6 || schedule.May(nil) {
				t.Errorf("after %v: %d ticks", l, schedule.Frame(example()))
			}
		}
	}
}

// within returns longer memory, and the part of it that has the windows of l.
func within(l []api.Window, around api.Window) (long, part []api.Window) {
	long = slices.Repeat([]api.Window{around}, len(l)+40)
	part = long[4 : 4+len(l)]
	copy(part, l)
	return long, part
}

// P0.4: what is passed is not changed, nor is what lies beyond its length, which counts for nothing.
func TestArgumentsUnchanged(t *testing.T) {
	for _, l := range inputs() {
		for _, around := range list(1, 1, 0, 0, 64, 7) {
			for _, c := range calls() {
				long, part := within(l, around)
				want := slices.Clone(long)
				if !slices.Equal(c.do(part), c.do(slices.Clip(slices.Clone(l)))) {
					t.Errorf("%s(%v) depends on what lies beyond it", c.name, l)
				}
				if !slices.Equal(long, want) {
					t.Errorf("%s(%v) changed what was passed: %v", c.name, l, long)
				}
			}
		}
	}
}

// P0.4: what is passed is not kept: it may become another schedule, while what was returned stays.
func TestArgumentsNotKept(t *testing.T) {
	for _, was := range inputs() {
		for _, is := range inputs() {
			if len(is) != len(was) {
				continue
			}
			for _, c := range calls() {
				l := slices.Clone(was)
				got := c.do(l)
				copy(l, is)
				if !slices.Equal(got, c.do(slices.Clone(was))) {
					t.Errorf("%s(%v) changed as its argument became %v", c.name, was, is)
				}
				if !slices.Equal(c.do(l), c.do(slices.Clone(is))) {
					t.Errorf("%s(%v) still answers for %v", c.name, is, was)
				}
			}
		}
	}
}

// P0.4: what Whole returns is new memory, with its capacity: writing there changes no later answer and no other one.
func TestWholeIsNew(t *testing.T) {
	for _, l := range valid() {
		want := slices.Clone(schedule.Whole(l))
		a, b := schedule.Whole(l), schedule.Whole(l)
		a = a[:cap(a)]
		for i := range a {
			a[i] = 9
		}
		if !slices.Equal(b, want) || !slices.Equal(schedule.Whole(l), want) {
			t.Errorf("Whole(%v) shares memory: %v", l, b)
		}
		at(t, l, 0, 0, l[0].Part, 0, l[0].Len)
		ticks(t, l, 9, 0)
	}
}

// P0.4: nil and empty slices are equivalent.
func TestNilIsEmpty(t *testing.T) {
	for _, c := range calls() {
		if !slices.Equal(c.do(nil), c.do([]api.Window{})) || !slices.Equal(c.do(nil), c.do(example()[:0])) {
			t.Errorf("%s: nil and empty differ", c.name)
		}
	}
	if schedule.Whole(nil) != nil || schedule.Whole([]api.Window{}) != nil {
		t.Errorf("Whole of no windows is not nil")
	}
}
