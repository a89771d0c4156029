package region_test

import (
	"math"
	"math/rand"
	"slices"
	"testing"

	"citadel/api"
	"citadel/region"
)

// placed is the chapter's definition of Place's region, for a list and a size that are accepted: byte by byte, from the smallest Base.
func placed(l []api.Region, size int) (api.Region, api.Errno) {
	var taken [4096]bool
	for _, r := range l {
		for at := r.Base; at < r.Base+r.Size; at++ {
			taken[at] = true
		}
	}
	for base := 0; base+size <= 4096; base += 4 {
		if !slices.Contains(taken[base:base+size], true) {
			return of(base, size), api.OK
		}
	}
	return api.Region{}, api.ErrFull
}

func place(t *testing.T, l []api.Region, size int, want api.Region, errno api.Errno) {
	t.Helper()
	for _, x := range [][]api.Region{l, reversed(l)} {
		if r, e := region.Place(x, size); r != want || e != errno {
			t.Errorf("Place(%v, %d) = %v, %d, want %v, %d", x, size, r, e, want, errno)
		}
	}
}

func refused(t *testing.T, l []api.Region, size int, errno api.Errno) {
	t.Helper()
	place(t, l, size, api.Region{}, errno)
}

// P8.3 (Place): the chapter's examples, and places ahead of, between and behind the others.
func TestPlaceOfEdges(t *testing.T) {
	two := list(0, 16, 32, 16)
	place(t, two, 16, of(16, 16), api.OK)
	place(t, list(0, 32), 16, of(32, 16), api.OK)
	place(t, two, 20, of(48, 20), api.OK)
	place(t, two, 512, of(48, 512), api.OK)
	for _, size := range []int{16, 20, 508, 512} {
		place(t, nil, size, of(0, size), api.OK)
		place(t, list(size, 16), size, of(0, size), api.OK)
		place(t, list(size-4, 16), size, of(size+12, size), api.OK)
		place(t, list(4, 16), size, of(20, size), api.OK)
		place(t, list(0, 20), size, of(20, size), api.OK)
		place(t, list(0, 16, 16+size, 16), size, of(16, size), api.OK)
		place(t, list(0, 16, 12+size, 16), size, of(28+size, size), api.OK)
		place(t, list(0, 16, 16+size, 16, 512+32+size, 64), size, of(16, size), api.OK)
		place(t, list(0, 16, 16, 16, 32, 512, 544, 20), size, of(564, size), api.OK)
	}
	place(t, list(4, 16, 36, 16), 16, of(20, 16), api.OK)
	place(t, list(16, 16), 16, of(0, 16), api.OK)
	place(t, list(12, 16), 16, of(28, 16), api.OK)
}

// without returns a memory that is full but for size bytes from base on; ahead of them and behind them lie no bytes, or enough for a region.
func without(base, size int) []api.Region {
	return append(cover(0, base), cover(base+size, 4096)...)
}

// cover returns touching regions from one address to another; none if that is the same one.
func cover(from, to int) []api.Region {
	var l []api.Region
	for from < to {
		size := min(512, to-from)
		if rest := to - from - size; rest > 0 && rest < 16 {
			size -= 16
		}
		l = append(l, of(from, size))
		from += size
	}
	return l
}

// P8.3 (Place): a full memory, and one whose only gap fits, or is too small by 4 bytes.
func TestPlaceInFullMemory(t *testing.T) {
	for _, size := range []int{16, 20, 64, 508, 512} {
		refused(t, filled(512), size, api.ErrFull)
		refused(t, filled(64), size, api.ErrFull)
		for _, base := range []int{0, 16, 20, 100, 512, 2048, 4096 - size} {
			place(t, without(base, size), size, of(base, size), api.OK)
			from := base
			if base+size == 4096 {
				from = base + 4
			}
			refused(t, without(from, size-4), size, api.ErrFull)
		}
	}
	refused(t, without(4084, 12), 16, api.ErrFull)
	refused(t, without(0, 12), 16, api.ErrFull)
	refused(t, without(2000, 12), 16, api.ErrFull)
	refused(t, without(2000, 4), 16, api.ErrFull)
	place(t, without(4080, 16), 16, of(4080, 16), api.OK)
	place(t, filled(512)[:7], 512, of(3584, 512), api.OK)
	place(t, filled(512)[1:], 512, of(0, 512), api.OK)
	place(t, filled(64)[:63], 64, of(4032, 64), api.OK)
	refused(t, filled(64)[:63], 68, api.ErrFull)
	refused(t, append(list(0, 16), filled(512)[1:]...), 500, api.ErrFull)
	place(t, append(list(0, 16), filled(512)[1:]...), 496, of(16, 496), api.OK)
}

// P8.3 (Place): sizes that no region has, at whichever place.
func TestPlaceOfSizes(t *testing.T) {
	for size := -20; size < 5000; size++ {
		want, errno := of(0, size), api.OK
		if size < 16 || size > 512 || size%4 != 0 {
			want, errno = api.Region{}, api.ErrArg
		}
		place(t, nil, size, want, errno)
	}
	for _, size := range append(invalidSizes(), numbers()...) {
		if size >= 16 && size <= 512 && size%4 == 0 {
			continue
		}
		refused(t, nil, size, api.ErrArg)
		refused(t, list(0, 16, 32, 16), size, api.ErrArg)
		refused(t, filled(64), size, api.ErrArg)
	}
}

func invalidSizes() []int {
	return []int{0, 4, 12, 18, 516, -16, 17, 513, math.MaxInt - 3, math.MinInt, 1<<32 + 16}
}

// P8.3 (Place): 64 regions are taken, 65 are not.
func TestPlaceOfMany(t *testing.T) {
	for _, n := range []int{62, 63, 64} {
		place(t, filled(16)[:n], 16, of(16*n, 16), api.OK)
		place(t, filled(16)[:n], 512, of(16*n, 512), api.OK)
		refused(t, filled(64)[:n], 256, api.ErrFull)
	}
	for _, n := range []int{65, 66, 127, 128, 129, 255, 256} {
		for _, size := range append([]int{16, 512}, invalidSizes()...) {
			refused(t, filled(16)[:n], size, api.ErrArg)
			refused(t, slices.Repeat(list(0, 16), n), size, api.ErrArg)
			refused(t, slices.Repeat(list(2, 16), n), size, api.ErrArg)
		}
	}
	refused(t, slices.Repeat(list(0, 16), 64), 16, api.ErrOverlap)
	refused(t, slices.Repeat(filled(16), 4096), 16, api.ErrArg)
}

// P8.3 (Place), P0.2: of several errors the first one, beside the zero value.
func TestPlaceErrorsInOrder(t *testing.T) {
	full, overlapping := filled(512), list(0, 16, 2048, 16, 12, 16)
	for _, size := range append([]int{16, 512}, invalidSizes()...) {
		for _, x := range invalid() {
			refused(t, []api.Region{x}, size, api.ErrArg)
			refused(t, []api.Region{x, x}, size, api.ErrArg)
			refused(t, append(slices.Clone(full), x), size, api.ErrArg)
			for i := range 4 {
				refused(t, slices.Insert(slices.Clone(overlapping), i, x), size, api.ErrArg)
			}
		}
		refused(t, overlapping, size, api.ErrOverlap)
		refused(t, append(slices.Clone(full), of(0, 16)), size, api.ErrOverlap)
		refused(t, append(slices.Clone(full), of(3584, 512)), size, api.ErrOverlap)
		if region.May(of(0, size)) {
			refused(t, full, size, api.ErrFull)
		} else {
			refused(t, full, size, api.ErrArg)
		}
	}
}

// scattered returns n disjoint regions at most, in a mixed order.
func scattered(from *rand.Rand, n int) []api.Region {
	var l []api.Region
	for base := 4 * from.Intn(20); base < 4096 && len(l) < n; base += 4 * from.Intn(20) {
		size := min(16+4*from.Intn(1<<from.Intn(8)), 512)
		if base+size > 4096 {
			break
		}
		l = append(l, of(base, size))
		base += size
	}
	from.Shuffle(len(l), func(i, j int) { l[i], l[j] = l[j], l[i] })
	return l
}

// P8.3 (Place): of all places the first one, in many memories.
func TestPlace(t *testing.T) {
	from := rand.New(rand.NewSource(83))
	got := map[api.Errno]int{}
	for range 3000 {
		l := scattered(from, 1+from.Intn(64))
		size := min(16+4*from.Intn(1<<from.Intn(8)), 512)
		want, errno := placed(l, size)
		place(t, l, size, want, errno)
		got[errno]++
	}
	for size := 16; size <= 512; size += 4 {
		for step := 16; step <= 512; step += 52 {
			l := comb(step, size)
			want, errno := placed(l, size)
			place(t, l, size, want, errno)
			got[errno]++
		}
	}
	if got[api.OK] < 300 || got[api.ErrFull] < 30 {
		t.Errorf("placed and not: %v", got)
	}
}

// comb returns regions that leave gaps of step, too small for the size if it is greater.
func comb(step, size int) []api.Region {
	var l []api.Region
	for base := step; base+size <= 4096 && len(l) < 64; base += step + size {
		l = append(l, of(base, size))
	}
	return l
}

// P8.4 (Holder): the chapter's examples.
func TestHolderOfEdges(t *testing.T) {
	two := list(0, 16, 32, 16)
	for at, want := range map[int]int{0: 0, 15: 0, 16: -1, 31: -1, 32: 1, 47: 1, 48: -1, -1: -1, 4095: -1, 4096: -1} {
		holder(t, two, at, want)
	}
	full := filled(512)
	for at, want := range map[int]int{0: 0, 511: 0, 512: 1, 4095: 7, 4096: -1, -1: -1, math.MaxInt: -1, math.MinInt: -1, 1 << 32: -1} {
		holder(t, full, at, want)
	}
	for i := range 256 {
		holder(t, filled(16), 16*i, i)
		holder(t, filled(16), 16*i+15, i)
		holder(t, reversed(filled(16)), 16*i, 255-i)
	}
	for _, at := range numbers() {
		holder(t, nil, at, -1)
		holder(t, []api.Region{}, at, -1)
	}
}

func holder(t *testing.T, l []api.Region, at, want int) {
	t.Helper()
	if got := region.Holder(l, at); got != want {
		t.Errorf("Holder(%v, %d) = %d, want %d", l, at, got, want)
	}
}

// P8.4 (Holder): of regions that are not disjoint the first in the list, not the one with the smaller Base or Size.
func TestHolderOfOverlaps(t *testing.T) {
	for _, c := range []struct {
		l        []api.Region
		at, want int
	}{
		{list(0, 20, 16, 16), 16, 0}, {list(16, 16, 0, 20), 16, 0}, {list(0, 20, 16, 16), 20, 1}, {list(16, 16, 0, 20), 15, 1},
		{list(0, 512, 100, 16), 100, 0}, {list(100, 16, 0, 512), 100, 0}, {list(100, 16, 0, 512), 116, 1},
		{list(0, 16, 0, 16), 3, 0}, {list(512, 16, 0, 16, 0, 16), 3, 1}, {list(512, 16, 0, 16, 0, 512, 4, 16), 19, 2},
		{list(4080, 16, 4076, 20), 4095, 0}, {list(4076, 20, 4080, 16), 4095, 0},
	} {
		holder(t, c.l, c.at, c.want)
	}
}

// P8.4 (Holder): an invalid region holds nothing, but counts in the index.
func TestHolderOfInvalid(t *testing.T) {
	for _, x := range invalid() {
		for at := -20; at < 4200; at += 3 {
			holder(t, []api.Region{x}, at, -1)
		}
		for _, at := range numbers() {
			holder(t, []api.Region{x, x}, at, -1)
		}
		for i := range 3 {
			l := slices.Insert(list(0, 16, 32, 16), i, x)
			holder(t, l, 3, []int{1, 0, 0}[i])
			holder(t, l, 16, -1)
			holder(t, l, 47, []int{2, 2, 1}[i])
		}
	}
}

// P8.4 (Holder): every byte of many memories, of disjoint regions and of others.
func TestHolder(t *testing.T) {
	from := rand.New(rand.NewSource(84))
	for range 40 {
		l := scattered(from, 64)
		for range from.Intn(3) {
			l = append(l, scattered(from, 10)...)
		}
		first := map[int]int{}
		for i, r := range l {
			for at := r.Base; at < r.Base+r.Size; at++ {
				if _, held := first[at]; !held {
					first[at] = i
				}
			}
		}
		for at := -20; at < 4200; at++ {
			want, held := first[at]
			if !held {
				want = -1
			}
			holder(t, l, at, want)
		}
	}
}
