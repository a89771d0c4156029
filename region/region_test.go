package region_test

import (
	"math"
	"slices"
	"testing"

	"citadel/api"
	"citadel/region"
)

func of(base, size int) api.Region { return api.Region{Base: base, Size: size} }

// list returns the regions whose Base and Size are told in turn.
func list(numbers ...int) []api.Region {
	var l []api.Region
	for i := 0; i < len(numbers); i += 2 {
		l = append(l, of(numbers[i], numbers[i+1]))
	}
	return l
}

// everyValid returns all valid regions, put together from what a Size and a Base may be.
func everyValid() map[api.Region]bool {
	valid := map[api.Region]bool{}
	for size := 16; size <= 512; size += 4 {
		for base, end := 0, size; end <= 4096; base, end = base+4, end+4 {
			valid[of(base, size)] = true
		}
	}
	return valid
}

// numbers: for a Base, a Size or an address, at their least and greatest, and where narrower ones or sums of them wrap.
func numbers() []int {
	l := []int{math.MinInt, math.MinInt + 1, math.MinInt + 4, math.MinInt + 16, math.MinInt + 4096}
	for _, x := range []int{math.MaxInt, math.MaxInt - 3, math.MaxInt - 15, math.MaxInt - 19, math.MaxInt - 511, math.MaxInt - 4095} {
		l = append(l, x, -x)
	}
	for _, x := range []int{1 << 8, 1 << 15, 1 << 16, 1 << 31, 1 << 32, 1 << 48, 1 << 62} {
		for _, off := range []int{-512, -16, -4, -1, 0, 1, 4, 15, 16, 20, 512} {
			l = append(l, x+off, -x+off)
		}
	}
	for _, x := range []int{0, 1, 2, 3, 4, 8, 12, 15, 16, 17, 18, 19, 20, 508, 510, 511, 512, 513, 514, 516, 1024, 2048} {
		l = append(l, x, -x, 4096-x, 4096+x)
	}
	return l
}

// P8.1 (May): the chapter's examples and the edges that it names.
func TestMayOfEdges(t *testing.T) {
	for _, r := range list(0, 16, 4, 512, 0, 20, 0, 512, 16, 16, 4080, 16, 4076, 20, 3584, 512, 2048, 508) {
		if !region.May(r) {
			t.Errorf("May(%v) = false", r)
		}
	}
	for _, r := range list(
		2, 16, 0, 12, 4084, 16, -4, 16, // the chapter's
		0, 516, 0, 0, 0, 4, 0, -16, 0, 1024, 0, 4096, 4, 12, 4, 516, // Size
		0, 17, 0, 18, 0, 19, 0, 21, 0, 510, 0, 511, 0, 513, 0, 15, // no multiple of 4
		1, 16, 3, 16, 5, 16, 4079, 16, 4081, 16, 2, 18, 1, 19, 3, 17,
		4080, 20, 4088, 16, 4092, 16, 4096, 16, 3588, 512, 4096, 0, // the end
		-16, 16, -4, 20, -512, 512, -2, 16, -4096, 16) {
		if region.May(r) {
			t.Errorf("May(%v) = true", r)
		}
	}
}

// P8.1 (May, End): every Base and Size in and around the memory.
func TestMayOfAll(t *testing.T) {
	valid := everyValid()
	for base := -40; base <= 4140; base++ {
		for size := -20; size <= 530; size++ {
			mayAndEnd(t, of(base, size), valid)
		}
	}
}

func mayAndEnd(t *testing.T, r api.Region, valid map[api.Region]bool) {
	end := 0
	if valid[r] {
		end = r.Base + r.Size
	}
	if may := region.May(r); may != valid[r] {
		t.Errorf("May(%v) = %v", r, may)
	}
	if got := region.End(r); got != end {
		t.Errorf("End(%v) = %d, want %d", r, got, end)
	}
}

// P8.1 (May, End, Has): numbers at their least and greatest, and those that wrap.
func TestNumbers(t *testing.T) {
	valid := everyValid()
	for _, base := range numbers() {
		for _, size := range numbers() {
			r := of(base, size)
			mayAndEnd(t, r, valid)
			for _, at := range []int{math.MinInt, base, base + size - 1, base + size, 0, 16, math.MaxInt} {
				want := valid[r] && base <= at && at < base+size
				if got := region.Has(r, at); got != want {
					t.Errorf("Has(%v, %d) = %v", r, at, got)
				}
			}
		}
	}
	for _, at := range numbers() {
		for _, r := range list(0, 16, 0, 512, 16, 20, 2048, 512, 4080, 16, 3584, 512) {
			want := r.Base <= at && at < r.Base+r.Size
			if got := region.Has(r, at); got != want {
				t.Errorf("Has(%v, %d) = %v", r, at, got)
			}
		}
	}
}

// P8.1 (End): ordinary regions, the last one, and invalid ones.
func TestEnd(t *testing.T) {
	for _, c := range []struct {
		r    api.Region
		want int
	}{
		{of(0, 16), 16}, {of(4, 512), 516}, {of(4080, 16), 4096}, {of(3584, 512), 4096}, {of(100, 20), 120},
		{of(4084, 16), 0}, {of(-4, 16), 0}, {of(-4, 20), 0}, {of(0, 12), 0}, {of(0, 516), 0}, {of(2, 16), 0}, {of(16, 18), 0}, {of(16, 0), 0},
	} {
		if got := region.End(c.r); got != c.want {
			t.Errorf("End(%v) = %d, want %d", c.r, got, c.want)
		}
	}
}

// P8.1 (Has): the first byte, the last one, those beside them, and every other one.
func TestHas(t *testing.T) {
	for _, r := range list(0, 16, 16, 16, 4, 20, 100, 508, 4, 512, 4080, 16, 3584, 512) {
		for at := -20; at < 4200; at++ {
			want := r.Base <= at && at <= r.Base+r.Size-1
			if got := region.Has(r, at); got != want {
				t.Errorf("Has(%v, %d) = %v", r, at, got)
			}
		}
	}
}

// P8.1 (Has): an invalid region has no bytes.
func TestHasOfInvalid(t *testing.T) {
	for _, r := range invalid() {
		for at := -20; at < 4200; at++ {
			if region.Has(r, at) {
				t.Errorf("Has(%v, %d) = true", r, at)
			}
		}
	}
}

func invalid() []api.Region {
	return list(2, 16, 0, 12, 4084, 16, -4, 16, -4, 20, 0, 516, 0, 18, 1, 16, 0, 0, 0, -16, 16, 17, 4096, 16, 4080, 20, 0, 4096,
		math.MaxInt-3, 16, math.MinInt, 16, math.MaxInt-3, 512, math.MinInt, 512, 0, math.MaxInt-3, 0, math.MinInt, 1<<32, 16, 0, 1<<32+16)
}

// P8.2 (Apart): the chapter's examples, and regions that lie to each other in every way.
func TestApartOfEdges(t *testing.T) {
	for _, c := range []struct {
		a, b api.Region
		want bool
	}{
		{of(0, 16), of(16, 16), true}, {of(0, 20), of(16, 16), false}, // the chapter's
		{of(0, 16), of(20, 16), true}, {of(0, 16), of(4080, 16), true}, {of(0, 512), of(512, 512), true}, // touching, and farther
		{of(0, 16), of(12, 16), false}, {of(0, 512), of(508, 16), false}, {of(4068, 16), of(4080, 16), false}, // 4 bytes in both
		{of(0, 512), of(100, 16), false}, {of(100, 64), of(100, 16), false}, {of(100, 64), of(148, 16), false}, // one within another
		{of(0, 16), of(0, 16), false}, {of(3584, 512), of(3584, 512), false}, // the same
		{of(0, 32), of(16, 32), false}, {of(4, 16), of(0, 16), false},
	} {
		for _, l := range [][2]api.Region{{c.a, c.b}, {c.b, c.a}} {
			if got := region.Apart(l[0], l[1]); got != c.want {
				t.Errorf("Apart(%v, %v) = %v", l[0], l[1], got)
			}
		}
	}
}

// some returns valid regions of few and many bytes, all over the memory.
func some() []api.Region {
	var l []api.Region
	for _, size := range []int{16, 20, 64, 100, 508, 512} {
		for _, base := range []int{0, 4, 12, 16, 20, 36, 84, 100, 496, 508, 512, 516, 1024, 2000, 4096 - 512, 4096 - 36, 4096 - 20, 4096 - 16} {
			if base+size <= 4096 {
				l = append(l, of(base, size))
			}
		}
	}
	return l
}

// shares tells whether a byte is in both regions, looking at each.
func shares(a, b api.Region) bool {
	for at := a.Base; at < a.Base+a.Size; at++ {
		if b.Base <= at && at < b.Base+b.Size {
			return true
		}
	}
	return false
}

// P8.2 (Apart): two regions share a byte or they do not.
func TestApart(t *testing.T) {
	for _, a := range some() {
		for _, b := range some() {
			if got := region.Apart(a, b); got == shares(a, b) {
				t.Errorf("Apart(%v, %v) = %v", a, b, got)
			}
		}
	}
}

// P8.2 (Apart): false if one of the two is invalid, or both are.
func TestApartOfInvalid(t *testing.T) {
	for _, x := range invalid() {
		for _, y := range append(some(), invalid()...) {
			if region.Apart(x, y) || region.Apart(y, x) {
				t.Errorf("Apart of %v and %v", x, y)
			}
		}
	}
}

// filled returns the regions of that size that fill the memory, from its start.
func filled(size int) []api.Region {
	var l []api.Region
	for base := 0; base+size <= 4096; base += size {
		l = append(l, of(base, size))
	}
	return l
}

// reversed returns the regions from the last one to the first.
func reversed(l []api.Region) []api.Region {
	l = slices.Clone(l)
	slices.Reverse(l)
	return l
}

func all(t *testing.T, why string, l []api.Region, want api.Errno) {
	t.Helper()
	if got := region.All(l); got != want {
		t.Errorf("%s: All(%v) = %d, want %d", why, l, got, want)
	}
	if got := region.All(reversed(l)); got != want {
		t.Errorf("%s: All(%v) = %d, want %d", why, reversed(l), got, want)
	}
}

// P8.2 (All): no region, one, and some that are disjoint, however many.
func TestAll(t *testing.T) {
	all(t, "nil", nil, api.OK)
	all(t, "none", []api.Region{}, api.OK)
	for _, r := range some() {
		all(t, "one", []api.Region{r}, api.OK)
	}
	all(t, "touching", list(0, 16, 16, 16), api.OK)
	all(t, "scattered", list(512, 512, 0, 20, 4080, 16, 20, 16, 2048, 508), api.OK)
	for _, size := range []int{16, 20, 64, 512} {
		all(t, "as many as there is room for", filled(size), api.OK)
	}
	all(t, "64", filled(16)[:64], api.OK)
	all(t, "65", filled(16)[:65], api.OK)
}

// P8.2 (All): two regions that are not disjoint, wherever they stand in the list.
func TestAllOfOverlaps(t *testing.T) {
	for _, two := range [][]api.Region{
		list(0, 20, 16, 16), list(0, 16, 12, 16), list(0, 16, 0, 16), list(0, 64, 16, 16), list(0, 64, 0, 16), list(0, 64, 48, 16), list(0, 512, 508, 512),
	} {
		all(t, "two", two, api.ErrOverlap)
		for n := range 7 {
			for i := range n + 1 {
				for j := i; j <= n; j++ {
					l := slices.Insert(filled(512)[2:2+n], j, two[1])
					l = slices.Insert(l, i, two[0])
					all(t, "two of several", l, api.ErrOverlap)
				}
			}
		}
	}
	for _, i := range []int{0, 1, 63, 64, 65, 128, 254, 255} {
		all(t, "one twice", append(filled(16), of(16*i, 16)), api.ErrOverlap)
		all(t, "one that reaches into the next", append(filled(16), of(min(16*i, 4076), 20)), api.ErrOverlap)
	}
	all(t, "more than there is room for", slices.Repeat(filled(16), 300), api.ErrOverlap)
	all(t, "one, again and again", slices.Repeat(list(0, 16), 100000), api.ErrOverlap)
}

// P8.2 (All): an invalid region, wherever it stands, also beside two that are not disjoint.
func TestAllOfInvalid(t *testing.T) {
	for _, x := range invalid() {
		all(t, "alone", []api.Region{x}, api.ErrArg)
		all(t, "twice", []api.Region{x, x}, api.ErrArg)
		for _, l := range [][]api.Region{list(1024, 16), list(1024, 16, 2048, 16, 512, 16), list(0, 20, 16, 16), list(0, 16, 0, 16), list(0, 64, 1024, 16, 16, 16)} {
			for i := range len(l) + 1 {
				all(t, "beside others", slices.Insert(slices.Clone(l), i, x), api.ErrArg)
			}
		}
		all(t, "behind many", append(filled(16), x), api.ErrArg)
		all(t, "behind more than there is room for", append(slices.Repeat(list(0, 16), 1000), x), api.ErrArg)
	}
}
