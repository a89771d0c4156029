package attempt_test

import (
	"fmt"
	"math"
	"testing"

	"citadel/api"
	"citadel/attempt"
	"citadel/disk"
)

// P17.2 (Next): one more for each number that the record may state, but no higher than 2^40.
func TestNext(t *testing.T) {
	for _, c := range []struct{ n, want int }{
		{1, 2}, {2, 3}, {254, 255}, {255, 256}, {1<<31 - 1, 1 << 31}, {1<<32 - 1, 1 << 32}, {1<<39 - 1, 1 << 39},
		{cap40 - 3, cap40 - 2}, {cap40 - 2, cap40 - 1}, {cap40 - 1, cap40}, {cap40, cap40},
		{cap40 + 1, cap40}, {cap40 + 2, cap40}, {1 << 41, cap40}, {1 << 62, cap40}, {math.MaxInt64 - 1, cap40}, {math.MaxInt64, cap40},
	} {
		for _, seqn := range good() {
			d := holding(t, sectorOf(seqn, c.n))
			nexts(t, fmt.Sprint(c.n), d, seqn, c.want, api.OK)
			only(t, fmt.Sprint(c.n), d, seqn, c.want)
			dirty(t, fmt.Sprint(c.n), d)
			if s := d.Flushed(place); string(s) != string(sectorOf(seqn, c.want)) {
				t.Errorf("%d attempts of %d, one more: %x", c.n, seqn, s)
			}
		}
	}
}

// P17.2 (Next), P17.4: for another Seqn than the record's it begins at 1, and the record's own number is gone.
func TestNextOfAnother(t *testing.T) {
	for _, n := range good() {
		for _, seqn := range around(6) {
			if seqn < 1 {
				continue
			}
			d := holding(t, sectorOf(6, n))
			nexts(t, fmt.Sprint("another, ", n), d, seqn, 1, api.OK)
			only(t, fmt.Sprint("another, ", n), d, seqn, 1)
			nexts(t, "back", d, 6, 1, api.OK)
			only(t, "back", d, 6, 1)
		}
	}
}

// P17.2 (Next), P17.3: many times over.
func TestNextManyTimes(t *testing.T) {
	x := pair(t, 5)
	for n := 1; n <= 700; n++ {
		nexts(t, "many", x.d, 9, n, api.OK)
		gets(t, "many", x.d, 9, n, api.OK)
		gets(t, "many", x.d, 8, 0, api.OK)
	}
	d := made(t, 3)
	do(t, "Put", attempt.Put(d, 9, cap40-5), api.OK)
	for n := 1; n <= 20; n++ {
		nexts(t, "to the end", d, 9, min(cap40-5+n, cap40), api.OK)
	}
}

// P17.2 (Next): it counts from what is in the cache, and flushes the whole cache, at the highest number too.
func TestNextCached(t *testing.T) {
	for _, c := range []struct{ n, want int }{{1, 2}, {8, 9}, {cap40 - 1, cap40}, {cap40, cap40}, {math.MaxInt64, cap40}} {
		d := holding(t, sectorOf(4, 2))
		do(t, "Write", d.Write(place, sectorOf(4, c.n)), api.OK)
		do(t, "Write", d.Write(0, mixed(64, 5)), api.OK)
		do(t, "Write", d.Write(4, mixed(64, 6)), api.OK)
		nexts(t, "cached", d, 4, c.want, api.OK)
		dirty(t, "cached", d)
		do(t, "Crash", d.Crash(nil), api.OK)
		do(t, "Start", d.Start(), api.OK)
		only(t, "flushed", d, 4, c.want)
		if string(d.Flushed(0)) != string(mixed(64, 5)) || string(d.Flushed(4)) != string(mixed(64, 6)) {
			t.Error("Next flushes not all of the cache")
		}
	}
}

// P17.2 (Next): a Next is two operations, at the highest number too.
func TestNextOperations(t *testing.T) {
	for _, n := range []int{1, 7, cap40 - 1, cap40, cap40 + 1, math.MaxInt64} {
		d := holding(t, sectorOf(4, n))
		do(t, "Arm", d.Arm(3, nil), api.OK)
		nexts(t, "two operations", d, 4, more(n), api.OK)
		nexts(t, "the third", d, 4, 0, api.ErrDown)
		for at := 1; at <= 2; at++ {
			d = holding(t, sectorOf(4, n))
			do(t, "Arm", d.Arm(at, nil), api.OK)
			nexts(t, fmt.Sprint("operation ", at), d, 4, 0, api.ErrDown)
			if d.Up() {
				t.Errorf("with %d attempts, a Next has less than %d operations", n, at)
			}
		}
	}
}

// P17.2 (Next): a Seqn below 1 is refused, whatever stands on the disk, and writes nothing.
func TestNextBelowOne(t *testing.T) {
	for _, low := range bad() {
		x := pair(t, 5)
		do(t, fmt.Sprint(low), x.next(low), api.ErrArg)
		x.both(func(d *disk.Disk) api.Errno { return d.Write(place, sectorOf(low, 3)) })
		do(t, fmt.Sprint(low), x.next(low), api.ErrArg)
		nexts(t, "low", x.d, low, 0, api.ErrArg)
		dirty(t, "low", x.d, 0, 2, 3)
	}
}

// P0.2, P17.2 (Next): of several errors the first one counts, and there is no number beside one.
func TestNextErrors(t *testing.T) {
	down, small, both, armed := holding(t, sectorOf(4, 2)), made(t, 2), made(t, 1), holding(t, sectorOf(4, 2))
	do(t, "Crash", down.Crash(nil), api.OK)
	do(t, "Crash", both.Crash(nil), api.OK)
	do(t, "Arm", small.Arm(1, nil), api.OK)
	do(t, "Arm", armed.Arm(1, nil), api.OK)
	for _, low := range bad() {
		nexts(t, "nil, a number", nil, low, 0, api.ErrNil)
		nexts(t, "no disk, a number", new(disk.Disk), low, 0, api.ErrNil)
		for _, d := range []*disk.Disk{down, small, both, armed} {
			nexts(t, "a number, the disk", d, low, 0, api.ErrArg)
		}
	}
	for _, seqn := range good() {
		nexts(t, "nil", nil, seqn, 0, api.ErrNil)
		nexts(t, "no disk", new(disk.Disk), seqn, 0, api.ErrNil)
		nexts(t, "down", down, seqn, 0, api.ErrDown)
		nexts(t, "no sector", small, seqn, 0, api.ErrSector)
		nexts(t, "down, no sector", both, seqn, 0, api.ErrDown)
	}
	if !small.Up() || !armed.Up() {
		t.Error("a Next that is refused is an operation")
	}
	nexts(t, "crash", armed, 4, 0, api.ErrDown)
	nexts(t, "down", armed, 4, 0, api.ErrDown)
	do(t, "Start", down.Start(), api.OK)
	nexts(t, "up", down, 4, 3, api.OK)
}
