package region_test

import (
	"math/rand"
	"slices"
	"testing"

	"citadel/api"
	"citadel/region"
)

// holders counts the regions of l that contain the byte.
func holders(l []api.Region, at int) int {
	n := 0
	for _, r := range l {
		if region.Has(r, at) {
			n++
		}
	}
	return n
}

// P8.5 (unique holder): if All finds regions disjoint, a byte is in one of them at most, which Holder tells; if not, some byte is in two.
func TestUniqueHolder(t *testing.T) {
	from := rand.New(rand.NewSource(85))
	got := map[api.Errno]int{}
	for range 400 {
		l := scattered(from, 1+from.Intn(30))
		if from.Intn(2) == 0 {
			l = append(l, of(4*from.Intn(800), 16+4*from.Intn(20)))
		}
		most := 0
		for at := -4; at <= 4100; at++ {
			n := holders(l, at)
			most = max(most, n)
			if held := region.Holder(l, at) >= 0; held != (n > 0) {
				t.Errorf("%v: byte %d is in %d regions, and held: %v", l, at, n, held)
			}
		}
		e := region.All(l)
		if want := []api.Errno{api.OK, api.OK, api.ErrOverlap}[min(most, 2)]; e != want {
			t.Errorf("All(%v) = %d, but a byte is in %d", l, e, most)
		}
		got[e]++
	}
	if got[api.OK] < 100 || got[api.ErrOverlap] < 30 {
		t.Errorf("disjoint and not: %v", got)
	}
}

// P8.5 (unique holder): the bytes of one region have no other holder, whichever stands first.
func TestHolderWhateverTheOrder(t *testing.T) {
	from := rand.New(rand.NewSource(58))
	for range 100 {
		l := scattered(from, 20)
		mixed := slices.Clone(l)
		from.Shuffle(len(mixed), func(i, j int) { mixed[i], mixed[j] = mixed[j], mixed[i] })
		for at := range 4096 {
			i, j := region.Holder(l, at), region.Holder(mixed, at)
			if (i < 0) != (j < 0) || i >= 0 && l[i] != mixed[j] {
				t.Errorf("byte %d: %d of %v, %d of %v", at, i, l, j, mixed)
			}
		}
	}
}

// P8.5 (unique holder): two regions are disjoint if no byte is in both.
func TestApartAndHas(t *testing.T) {
	for _, a := range some() {
		for _, b := range some() {
			both := false
			for at := range 4096 {
				both = both || region.Has(a, at) && region.Has(b, at)
			}
			if region.Apart(a, b) == both || region.Apart(b, a) == both {
				t.Errorf("Apart(%v, %v) = %v", a, b, !both)
			}
		}
	}
}

// P8.6 (placement): what is placed is appended and passed again, till there is no room or there are more than 64.
func TestPlaceAgainAndAgain(t *testing.T) {
	from := rand.New(rand.NewSource(86))
	ends := map[api.Errno]int{}
	for round := range 200 {
		sizes := []int{16, 20, 64, 68, 100, 508, 512, 16 + 4*(round%125)}[:1+round%8]
		l := scattered(from, from.Intn(10))
		for {
			size := sizes[(round+len(l)*(round%3))%len(sizes)]
			want, errno := api.Region{}, api.ErrArg
			if len(l) <= 64 {
				want, errno = placed(l, size)
			}
			r, e := region.Place(l, size)
			if r != want || e != errno {
				t.Fatalf("Place(%v, %d) = %v, %d, want %v, %d", l, size, r, e, want, errno)
			}
			if e != api.OK {
				ends[e]++
				break
			}
			placedFits(t, l, r, size)
			l = append(l, r)
		}
	}
	if ends[api.ErrFull] < 20 || ends[api.ErrArg] < 20 {
		t.Errorf("ends: %v", ends)
	}
}

// placedFits holds r to be valid, of that size, and disjoint from all of l.
func placedFits(t *testing.T, l []api.Region, r api.Region, size int) {
	t.Helper()
	if !region.May(r) || r.Size != size {
		t.Errorf("Place(%v, %d) = %v", l, size, r)
	}
	for _, other := range l {
		if !region.Apart(r, other) {
			t.Errorf("Place(%v, %d) = %v, which is not disjoint from %v", l, size, r, other)
		}
	}
	if e := region.All(append(slices.Clone(l), r)); e != api.OK {
		t.Errorf("All of %v and %v = %d", l, r, e)
	}
}

// P8.6 (placement): one size fills the memory, each place behind the one before, till 65 regions are too many.
func TestPlaceFills(t *testing.T) {
	for size := 16; size <= 512; size += 4 {
		var l []api.Region
		for i := range min(4096/size, 65) {
			r, e := region.Place(l, size)
			if e != api.OK || r != of(i*size, size) {
				t.Fatalf("the %d-th of %d bytes: %v, %d", i, size, r, e)
			}
			l = append(l, r)
		}
		want := api.ErrFull
		if len(l) == 65 {
			want = api.ErrArg
		}
		refused(t, l, size, want)
	}
}
