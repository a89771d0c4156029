package attempt_test

import (
	"testing"

	"citadel/api"
	"citadel/attempt"
	"citadel/disk"
)

// P0.1: every call on a disk that is nil, or that New did not create, returns ErrNil, whatever else it is given.
func TestNoDisk(t *testing.T) {
	var empty disk.Disk
	for _, d := range []*disk.Disk{nil, {}, new(disk.Disk), &empty} {
		for _, seqn := range append(good(), bad()...) {
			for _, n := range append(good(), bad()...) {
				do(t, "no disk", attempt.Put(d, seqn, n), api.ErrNil)
			}
			gets(t, "no disk", d, seqn, 0, api.ErrNil)
			nexts(t, "no disk", d, seqn, 0, api.ErrNil)
		}
		if d.Len() != 0 || d.Up() || d.Dirty() != nil {
			t.Error("a disk came of nothing")
		}
	}
}

// P0.1, P0.2: every call returns, whatever it is given, with the first error, and with 0 beside an error.
func TestAllArguments(t *testing.T) {
	for _, sectors := range []int{1, 2, 3, 4} {
		for _, down := range []bool{false, true} {
			x := pair(t, sectors)
			if down {
				x.both(func(d *disk.Disk) api.Errno { return d.Crash([]byte{3}) })
			}
			for _, seqn := range append(good(), bad()...) {
				for _, n := range append(bad(), good()...) {
					x.put(seqn, n)
					x.get(seqn)
				}
				x.next(seqn)
				x.get(seqn)
			}
		}
	}
}

// P0.3: calls that are refused, and all of Get, change nothing, the operations that an armed disk counts among it.
func TestRefusalsChangeNothing(t *testing.T) {
	x := pair(t, 5)
	x.put(4, 2)
	x.both(func(d *disk.Disk) api.Errno { return d.Write(3, mixed(64, 77)) })
	x.both(func(d *disk.Disk) api.Errno { return d.Arm(2, []byte{0xff}) })
	for _, low := range bad() {
		do(t, "low", x.put(low, 3), api.ErrArg)
		do(t, "low", x.put(4, low), api.ErrArg)
		do(t, "low", x.next(low), api.ErrArg)
		do(t, "low", x.get(low), api.OK)
		do(t, "get", x.get(4), api.OK)
	}
	do(t, "crash at the flush", x.next(4), api.ErrDown)
	x.both((*disk.Disk).Start)
	gets(t, "behind it", x.d, 4, 3, api.OK)

	small := pair(t, 2)
	small.both(func(d *disk.Disk) api.Errno { return d.Arm(1, []byte{0xff}) })
	for range 9 {
		do(t, "no sector", small.put(4, 1), api.ErrSector)
		do(t, "no sector", small.next(4), api.ErrSector)
		do(t, "no sector", small.get(4), api.ErrSector)
	}
	dirty(t, "no sector", small.d, 0)
	do(t, "crash", small.both((*disk.Disk).Flush), api.ErrDown)
}

// P0.3: a disk that is down stays as it is.
func TestDownChangesNothing(t *testing.T) {
	x := pair(t, 5)
	x.put(4, 2)
	x.both(func(d *disk.Disk) api.Errno { return d.Crash(nil) })
	for _, seqn := range append(bad(), good()...) {
		x.put(seqn, 1)
		x.put(4, seqn)
		x.next(seqn)
		x.get(seqn)
	}
	x.both((*disk.Disk).Start)
	gets(t, "up", x.d, 4, 2, api.OK)
}

// P0.4: no call keeps anything but what the disk has: each disk counts by itself, and a sector that is handed in or out stays as it was.
func TestNothingKept(t *testing.T) {
	d, other := made(t, 3), made(t, 3)
	nexts(t, "the first disk", d, 4, 1, api.OK)
	nexts(t, "the first disk", d, 4, 2, api.OK)
	gets(t, "another disk", other, 4, 0, api.OK)
	nexts(t, "another disk", other, 4, 1, api.OK)
	nexts(t, "another disk", other, 5, 1, api.OK)
	gets(t, "the first disk", d, 4, 2, api.OK)
	s := d.Flushed(place)
	s[9]++
	gets(t, "a copy is changed", d, 4, 2, api.OK)
	do(t, "Write", d.Write(place, make([]byte, 64)), api.OK)
	gets(t, "overwritten", d, 4, 0, api.OK)
	nexts(t, "overwritten", d, 4, 1, api.OK)
}
