package slot_test

import (
	"bytes"
	"fmt"
	"math"
	"slices"
	"testing"

	"citadel/api"
	"citadel/disk"
	"citadel/slot"
)

// P15.1, P15.2: the chapter's examples.
func TestExamples(t *testing.T) {
	d := made(t, api.Sectors)
	do(t, "Write", slot.Write(d, 0, 62, []byte("abc")), api.OK)
	dirty(t, d, 3, 4)
	reads(t, d, 0, 66, append(append(make([]byte, 62), "abc"...), 0), api.OK)
	do(t, "Write", slot.Write(d, 1, 4095, []byte("ab")), api.ErrFull)
	do(t, "Write", slot.Write(d, 2, 0, []byte("a")), api.ErrArg)
	do(t, "Write", slot.Write(d, 0, -1, []byte("a")), api.ErrArg)
	dirty(t, d, 3, 4)
	do(t, "Write", slot.Write(d, 0, 61, []byte("x")), api.OK)
	want := append(append(make([]byte, 61), "xabc"...), 0)
	reads(t, d, 0, 66, want, api.OK)
	gets(t, d, 0, 66, digest(want), want, api.OK)
	gets(t, d, 0, 65, digest(want), nil, api.ErrSlot)
}

// P15.1: the sectors that receive a byte come into the cache, those and no others.
func TestWriteCaches(t *testing.T) {
	for _, c := range []struct{ at, n, first, last int }{
		{0, 1, 3, 3}, {0, 63, 3, 3}, {0, 64, 3, 3}, {0, 65, 3, 4}, {0, 128, 3, 4}, {0, 129, 3, 5},
		{1, 63, 3, 3}, {1, 64, 3, 4}, {30, 4, 3, 3}, {62, 2, 3, 3}, {62, 3, 3, 4}, {63, 1, 3, 3}, {63, 2, 3, 4}, {63, 65, 3, 4}, {63, 66, 3, 5},
		{64, 1, 4, 4}, {64, 64, 4, 4}, {64, 65, 4, 5}, {65, 63, 4, 4}, {65, 64, 4, 5}, {2000, 500, 34, 42},
		{4031, 1, 65, 65}, {4031, 2, 65, 66}, {4032, 64, 66, 66}, {4033, 63, 66, 66}, {4095, 1, 66, 66},
		{0, 4096, 3, 66}, {1, 4095, 3, 66}, {0, 4095, 3, 66}, {0, 4032, 3, 65}, {0, 4033, 3, 66}, {64, 4032, 4, 66}, {63, 4033, 3, 66},
		{0, 0, 1, 0}, {1, 0, 1, 0}, {64, 0, 1, 0}, {4095, 0, 1, 0}, {4096, 0, 1, 0},
	} {
		for which := range 2 {
			for _, b := range [][]byte{mixed(c.n, 9), make([]byte, c.n)} { // also what the sectors have already
				d := made(t, api.Sectors)
				do(t, fmt.Sprint(c), slot.Write(d, which, c.at, b), api.OK)
				dirty(t, d, upTo(c.first+64*which, c.last+64*which)...)
			}
		}
	}
}

// P15.1: bytes come to their positions; all others stay, those of the same sectors too, whether cached or flushed.
func TestWriteReplaces(t *testing.T) {
	for which := range 2 {
		x := pair(t, api.Sectors)
		before, e := slot.Read(x.d, which, 4096)
		answered(t, "Read", before, e, before, api.OK)
		for i, c := range []struct{ at, n int }{{30, 4}, {62, 3}, {0, 64}, {65, 63}, {63, 2}, {127, 130}, {4095, 1}, {4032, 64}, {1000, 0}, {0, 4096}, {5, 4090}} {
			b := mixed(c.n, 100+i)
			do(t, "Write", x.write(which, c.at, b), api.OK)
			copy(before[c.at:], b)
			reads(t, x.d, which, 4096, before, api.OK)
		}
	}
}

// P15.1, P15.2: the edges of slots, positions and counts, on a disk that is in use, held against the definitions.
func TestEdges(t *testing.T) {
	edges := []int{math.MinInt, -4096, -1, 0, 1, 63, 64, 65, 4031, 4032, 4033, 4095, 4096, 4097, math.MaxInt - 4096, math.MaxInt}
	x := pair(t, api.Sectors)
	for _, which := range []int{math.MinInt, -1, 0, 1, 2, 3, math.MaxInt} {
		for i, at := range edges {
			x.read(which, at)
			all, _ := readOut(x.twin, which, at)
			x.get(which, at, digest(all))
			for _, n := range []int{0, 1, 2, 63, 64, 65, 4031, 4032, 4095, 4096, 4097} {
				x.write(which, at, mixed(n, i+n))
			}
		}
	}
}

// P15.1: which positions, slots and lengths are refused, with which error, and that a refusal writes nothing.
func TestWriteRefuses(t *testing.T) {
	for _, c := range []struct {
		which, at, n int
		want         api.Errno
	}{
		{2, 0, 1, api.ErrArg}, {-1, 0, 1, api.ErrArg}, {2, 0, 0, api.ErrArg}, {-1, 0, 0, api.ErrArg}, {math.MaxInt, 0, 1, api.ErrArg}, {math.MinInt, 0, 1, api.ErrArg},
		{0, -1, 1, api.ErrArg}, {1, -1, 0, api.ErrArg}, {0, -64, 64, api.ErrArg}, {0, math.MinInt, 1, api.ErrArg}, {1, math.MinInt, 0, api.ErrArg},
		{0, 0, 4097, api.ErrFull}, {1, 1, 4096, api.ErrFull}, {0, 4095, 2, api.ErrFull}, {1, 4096, 1, api.ErrFull}, {0, 4097, 0, api.ErrFull}, {0, 4097, 1, api.ErrFull},
		{0, 64, 4033, api.ErrFull}, {0, 0, 8192, api.ErrFull}, {0, 0, 1 << 20, api.ErrFull}, {1, 8192, 1, api.ErrFull},
		{0, math.MaxInt, 0, api.ErrFull}, {0, math.MaxInt, 1, api.ErrFull}, {1, math.MaxInt, 4096, api.ErrFull}, {0, math.MaxInt - 4095, 4096, api.ErrFull}, {1, math.MaxInt - 1, 1, api.ErrFull},
	} {
		d, twin := used(t, api.Sectors), used(t, api.Sectors)
		do(t, fmt.Sprint(c), slot.Write(d, c.which, c.at, mixed(c.n, 1)), c.want)
		alike(t, d, twin)
	}
}

// P15.1: the sectors are written in ascending order, each by one operation; at the one at which the disk crashes nothing more is done.
func TestWriteCrashes(t *testing.T) {
	for which := range 2 {
		for _, c := range []struct{ at, n, sectors int }{{0, 4096, 64}, {30, 4, 1}, {62, 3, 2}, {63, 130, 4}, {1000, 200, 4}} {
			for k := 1; k <= c.sectors; k++ {
				d, twin := made(t, api.Sectors), made(t, api.Sectors)
				b := mixed(c.n, 50)
				do(t, "Arm", d.Arm(k, slices.Repeat([]byte{255}, 9)), api.OK)
				do(t, fmt.Sprint(c, k), slot.Write(d, which, c.at, b), api.ErrDown)
				dirty(t, d)
				// The bytes of the sectors ahead of the k-th one are the first of b.
				if ahead := (k-1)*64 - c.at%64; ahead > 0 {
					do(t, "Write", wrote(twin, which, c.at, b[:ahead]), api.OK)
				}
				do(t, "Flush", twin.Flush(), api.OK)
				do(t, "Start", d.Start(), api.OK)
				alike(t, d, twin)
			}
		}
	}
}

// P15.1: a call is as many operations as sectors receive a byte; no bytes, refusals, Read and Get are none.
func TestOperations(t *testing.T) {
	for _, c := range []struct{ at, n, sectors int }{{0, 4096, 64}, {30, 4, 1}, {62, 3, 2}, {63, 130, 4}, {0, 64, 1}, {64, 65, 2}, {64, 0, 0}, {4096, 0, 0}, {4096, 1, 0}, {-1, 9, 0}} {
		d := made(t, api.Sectors)
		do(t, "Arm", d.Arm(c.sectors+1, nil), api.OK)
		slot.Write(d, 1, c.at, mixed(c.n, 1))
		slot.Write(d, 2, 0, []byte("a"))
		reads(t, d, 0, 4096, make([]byte, 4096), api.OK)
		gets(t, d, 0, 4096, api.Tag{}, nil, api.ErrSlot)
		if !d.Up() {
			t.Errorf("%v: too many operations", c)
		}
		do(t, fmt.Sprint(c), d.Flush(), api.ErrDown)
	}
}

// P15.1: a disk that ends within the slot: what comes ahead of its end is in the cache, and the disk's error is returned.
func TestWriteToSmallDisk(t *testing.T) {
	for _, c := range []struct {
		sectors, which, at, n int
		want                  api.Errno
		cached                []int
	}{
		{4, 0, 0, 64, api.OK, []int{3}}, {4, 0, 0, 65, api.ErrSector, []int{3}}, {4, 0, 0, 4096, api.ErrSector, []int{3}}, {4, 0, 64, 1, api.ErrSector, nil}, {4, 0, 4095, 1, api.ErrSector, nil},
		{3, 0, 0, 1, api.ErrSector, nil}, {1, 0, 0, 1, api.ErrSector, nil}, {1, 0, 0, 0, api.OK, nil}, {1, 1, 4096, 0, api.OK, nil}, {1, 1, 0, 0, api.OK, nil},
		{67, 0, 0, 4096, api.OK, upTo(3, 66)}, {67, 1, 0, 1, api.ErrSector, nil}, {66, 0, 4030, 66, api.ErrSector, []int{65}}, {10, 0, 100, 1000, api.ErrSector, upTo(4, 9)},
		{68, 1, 63, 2, api.ErrSector, []int{67}}, {131, 1, 0, 4096, api.OK, upTo(67, 130)}, {130, 1, 0, 4096, api.ErrSector, upTo(67, 129)}, {1024, 1, 4000, 96, api.OK, []int{129, 130}},
	} {
		d := made(t, c.sectors)
		do(t, fmt.Sprint(c), slot.Write(d, c.which, c.at, mixed(c.n, 1)), c.want)
		dirty(t, d, c.cached...)
		x := pair(t, c.sectors)
		do(t, fmt.Sprint(c), x.write(c.which, c.at, mixed(c.n, 1)), c.want)
	}
}

// P15.1: an empty piece asks for a disk that is up, and for nothing else of it.
func TestWriteNothing(t *testing.T) {
	for _, b := range [][]byte{nil, {}} {
		for _, at := range []int{0, 1, 63, 64, 4095, 4096} {
			x := pair(t, 200)
			do(t, "up", x.write(0, at, b), api.OK)
			x.both(func(d *disk.Disk) api.Errno { return d.Crash(nil) })
			do(t, "down", x.write(0, at, b), api.ErrDown)
			x.both((*disk.Disk).Start)
			do(t, "up again", x.write(1, at, b), api.OK)
		}
	}
}

// P15.1, P15.2: a disk that is down: ErrDown, for bytes and for none.
func TestDown(t *testing.T) {
	d, twin := used(t, api.Sectors), used(t, api.Sectors)
	do(t, "Crash", d.Crash(nil), api.OK)
	do(t, "Crash", twin.Crash(nil), api.OK)
	for which := range 2 {
		for _, n := range []int{0, 1, 64, 4096} {
			do(t, "Write", slot.Write(d, which, 0, mixed(n, 1)), api.ErrDown)
			reads(t, d, which, n, nil, api.ErrDown)
			gets(t, d, which, n, digest(nil), nil, api.ErrDown)
		}
	}
	do(t, "Start", d.Start(), api.OK)
	do(t, "Start", twin.Start(), api.OK)
	alike(t, d, twin)
}

// P0.2, P15.1: of several errors of Write the first one counts.
func TestWriteFirstError(t *testing.T) {
	small, down := made(t, 4), made(t, 4)
	do(t, "Crash", down.Crash(nil), api.OK)
	long := make([]byte, 5000)
	for _, none := range []*disk.Disk{nil, {}} {
		do(t, "no disk, no slot, negative, full", slot.Write(none, 2, -1, long), api.ErrNil)
		do(t, "no disk, full", slot.Write(none, 0, 0, long), api.ErrNil)
		do(t, "no disk", slot.Write(none, 0, 0, nil), api.ErrNil)
	}
	for _, d := range []*disk.Disk{small, down} {
		do(t, "no slot, full, disk", slot.Write(d, 2, 0, long), api.ErrArg)
		do(t, "negative, full, disk", slot.Write(d, 0, -1, long), api.ErrArg)
		do(t, "no slot, far, disk", slot.Write(d, -1, math.MaxInt, nil), api.ErrArg)
		do(t, "full, disk", slot.Write(d, 0, 0, long), api.ErrFull)
		do(t, "far, disk", slot.Write(d, 1, math.MaxInt, nil), api.ErrFull)
	}
	do(t, "down, no sector", slot.Write(down, 1, 0, []byte("a")), api.ErrDown)
	dirty(t, small)
	do(t, "Arm", small.Arm(2, []byte{1}), api.OK)
	do(t, "no sector, crash", slot.Write(small, 0, 0, long[:65]), api.ErrSector)
	dirty(t, small, 3)
	do(t, "crash, no sector", slot.Write(small, 0, 0, bytes.Repeat([]byte{1}, 65)), api.ErrDown)
	do(t, "down, no sector", slot.Write(small, 0, 64, []byte("a")), api.ErrDown)
	if b := small.Flushed(3); !bytes.Equal(b, make([]byte, 64)) {
		t.Errorf("sector 3 has %x", b)
	}
}
