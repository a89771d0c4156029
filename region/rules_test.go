package region_test

import (
	"slices"
	"testing"

	"citadel/api"
	"citadel/region"
)

// A call of region on a list, with what it returns: a region and a number.
type call struct {
	name string
	do   func(l []api.Region) (api.Region, int)
}

func calls() []call {
	l := []call{{"All", func(l []api.Region) (api.Region, int) { return api.Region{}, int(region.All(l)) }}}
	for _, size := range []int{12, 16, 20, 512} {
		l = append(l, call{"Place", func(l []api.Region) (api.Region, int) {
			r, e := region.Place(l, size)
			return r, int(e)
		}})
	}
	for _, at := range []int{-1, 0, 15, 16, 500, 4095, 4096} {
		l = append(l, call{"Holder", func(l []api.Region) (api.Region, int) { return api.Region{}, region.Holder(l, at) }})
	}
	return l
}

func same(c call, a, b []api.Region) bool {
	r, n := c.do(a)
	s, m := c.do(b)
	return r == s && n == m
}

// inputs: lists that are disjoint, lists that are not, ones with an invalid region, and long ones.
func inputs() [][]api.Region {
	return [][]api.Region{
		{}, list(0, 16), list(0, 16, 32, 16), list(32, 16, 0, 16), list(0, 20, 16, 16), list(16, 16, 0, 20), list(512, 512, 0, 512, 4080, 16),
		list(2, 16), list(0, 16, 0, 12, 8, 16), list(-4, 16, 4084, 16), some(), invalid(),
		filled(512), filled(64), filled(16)[:64], filled(16)[:65], filled(16), slices.Repeat(list(0, 16), 64), slices.Repeat(list(0, 16), 65),
	}
}

// P0.1, P0.2: every call returns, whatever it is given; beside an error stands the zero value.
func TestAllArguments(t *testing.T) {
	for _, l := range append(inputs(), nil) {
		if e := region.All(l); e != api.OK && e != api.ErrArg && e != api.ErrOverlap {
			t.Errorf("All(%v) = %d", l, e)
		}
		for _, n := range numbers() {
			r, e := region.Place(l, n)
			switch e {
			case api.OK:
				placedFits(t, l, r, n)
			case api.ErrArg, api.ErrOverlap, api.ErrFull:
				if r != (api.Region{}) {
					t.Errorf("Place(%v, %d) = %v, %d", l, n, r, e)
				}
			default:
				t.Errorf("Place(%v, %d) = %v, %d", l, n, r, e)
			}
			if i := region.Holder(l, n); i < -1 || i >= len(l) || i >= 0 && !region.Has(l[i], n) {
				t.Errorf("Holder(%v, %d) = %d", l, n, i)
			}
		}
	}
}

// P0.1: lists far longer than the memory has room for.
func TestLongLists(t *testing.T) {
	long := slices.Repeat(list(4080, 16), 1<<20)
	if e := region.All(long); e != api.ErrOverlap {
		t.Errorf("All = %d", e)
	}
	if r, e := region.Place(long, 16); e != api.ErrArg || r != (api.Region{}) {
		t.Errorf("Place = %v, %d", r, e)
	}
	if i := region.Holder(append(long, of(0, 16)), 3); i != 1<<20 {
		t.Errorf("Holder = %d", i)
	}
	long[len(long)-1] = of(4084, 16)
	if e := region.All(long); e != api.ErrArg {
		t.Errorf("All = %d", e)
	}
}

// P0.3: calls, those that are refused among them, change nothing that later ones answer.
func TestNothingKept(t *testing.T) {
	two := list(0, 16, 32, 16)
	for range 3 {
		for _, l := range inputs() {
			for _, c := range calls() {
				c.do(l)
			}
			place(t, two, 16, of(16, 16), api.OK)
			place(t, list(0, 32), 16, of(32, 16), api.OK)
			refused(t, filled(512), 16, api.ErrFull)
			all(t, "afterwards", two, api.OK)
			all(t, "afterwards", list(0, 20, 16, 16), api.ErrOverlap)
			holder(t, two, 47, 1)
		}
	}
}

// within returns longer memory, and the part of it that has the regions of l.
func within(l []api.Region, around api.Region) (whole, part []api.Region) {
	whole = slices.Repeat([]api.Region{around}, len(l)+80)
	part = whole[4 : 4+len(l)]
	copy(part, l)
	return whole, part
}

// P0.4: what is passed is not changed, nor is what lies beyond its length, which counts for nothing.
func TestArgumentsUnchanged(t *testing.T) {
	for _, l := range inputs() {
		for _, around := range list(0, 16, 2, 3, 496, 512) {
			for _, c := range calls() {
				whole, part := within(l, around)
				want := slices.Clone(whole)
				if !same(c, part, slices.Clip(slices.Clone(l))) {
					t.Errorf("%s(%v) depends on what lies beyond it", c.name, l)
				}
				if !slices.Equal(whole, want) {
					t.Errorf("%s(%v) changed what was passed: %v", c.name, l, whole)
				}
			}
		}
	}
}

// P0.4: what is passed is not kept: it may become another list.
func TestArgumentsNotKept(t *testing.T) {
	for _, was := range inputs() {
		for _, is := range inputs() {
			if len(is) != len(was) {
				continue
			}
			for _, c := range calls() {
				l := slices.Clone(was)
				c.do(l)
				copy(l, is)
				if !same(c, l, slices.Clone(is)) {
					t.Errorf("%s(%v) still answers for %v", c.name, is, was)
				}
			}
		}
	}
}

// P0.4: nil and empty slices are equivalent.
func TestNilIsEmpty(t *testing.T) {
	for _, c := range calls() {
		if !same(c, nil, []api.Region{}) {
			t.Errorf("%s: nil and empty differ", c.name)
		}
	}
}
