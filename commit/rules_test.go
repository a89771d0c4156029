package commit_test

import (
	"fmt"
	"testing"

	"citadel/api"
	"citadel/commit"
	"citadel/disk"
)

// P0.1: every call on a disk that is nil, or that New did not create, returns ErrNil, whatever else it is given.
func TestNoDisk(t *testing.T) {
	var empty disk.Disk
	for _, d := range []*disk.Disk{nil, {}, new(disk.Disk), &empty} {
		for _, r := range append(good(), bad()...) {
			do(t, fmt.Sprint(r), commit.Put(d, r), api.ErrNil)
		}
		gets(t, "no disk", d, api.Record{}, api.Record{}, api.ErrNil)
		if d.Len() != 0 || d.Up() || d.Dirty() != nil {
			t.Error("a disk came of nothing")
		}
	}
}

// P0.1, P0.2: every call returns, whatever it is given, with the first error, and with zero records beside an error.
func TestAllArguments(t *testing.T) {
	for _, sectors := range []int{1, 2, 3, api.Sectors, 1024} {
		for _, down := range []bool{false, true} {
			x := pair(t, sectors)
			if down {
				x.both(func(d *disk.Disk) api.Errno { return d.Crash([]byte{3}) })
			}
			for _, r := range append(bad(), good()...) {
				do(t, fmt.Sprint(r), commit.Put(x.d, r), put(x.twin, r))
				defined(t, fmt.Sprint(r), x.d)
			}
			alike(t, x.d, x.twin)
		}
	}
}

// P0.3: calls that are refused, and all of Get, change nothing, the operations that an armed disk counts among it.
func TestRefusalsChangeNothing(t *testing.T) {
	x := pair(t, 5)
	x.put(rec(2))
	x.both(func(d *disk.Disk) api.Errno { return d.Write(3, mixed(64, 77)) })
	x.both(func(d *disk.Disk) api.Errno { return d.Arm(2, []byte{0xff}) })
	for _, r := range bad() {
		do(t, fmt.Sprint(r), commit.Put(x.d, r), api.ErrArg)
	}
	for range 9 {
		gets(t, "armed", x.d, rec(2), api.Record{}, api.OK)
	}
	alike(t, x.d, x.twin)
	do(t, "crash", x.put(rec(3)), api.ErrDown)
	x.both((*disk.Disk).Start)
	gets(t, "behind it", x.d, rec(3), rec(2), api.OK)

	small := pair(t, 1)
	small.both(func(d *disk.Disk) api.Errno { return d.Arm(1, []byte{0xff}) })
	for range 9 {
		do(t, "no sector", small.put(rec(1)), api.ErrSector)
		gets(t, "no sector", small.d, api.Record{}, api.Record{}, api.ErrSector)
	}
	alike(t, small.d, small.twin)
	do(t, "crash", small.put(rec(2)), api.ErrDown)
}

// P0.3: a disk that is down stays as it is.
func TestDownChangesNothing(t *testing.T) {
	x := pair(t, 5)
	x.put(rec(2))
	x.both(func(d *disk.Disk) api.Errno { return d.Crash(nil) })
	for _, r := range append(bad(), good()...) {
		do(t, fmt.Sprint(r), commit.Put(x.d, r), put(x.twin, r))
	}
	gets(t, "down", x.d, api.Record{}, api.Record{}, api.ErrDown)
	alike(t, x.d, x.twin)
	x.both((*disk.Disk).Start)
	gets(t, "up", x.d, rec(2), api.Record{}, api.OK)
}

// P0.4: what is handed in stays as it was, what is handed out is nobody else's, and no call keeps anything but the disk.
func TestNothingKept(t *testing.T) {
	d, other := made(t, 3), made(t, 3)
	r := rec(1)
	do(t, "Put", commit.Put(d, r), api.OK)
	if r != rec(1) {
		t.Errorf("what was handed in is %v now", r)
	}
	r.Hash[0]++
	r.Len++
	gets(t, "changed", d, rec(1), api.Record{}, api.OK)
	do(t, "Put", commit.Put(d, rec(2)), api.OK)
	last, ahead, _ := commit.Get(d)
	last.Hash[5]++
	ahead.Hash[5]++
	gets(t, "changed", d, rec(2), rec(1), api.OK)
	gets(t, "another disk", other, api.Record{}, api.Record{}, api.ErrCommit)
	do(t, "Put", commit.Put(other, rec(7)), api.OK)
	gets(t, "another disk", other, rec(7), api.Record{}, api.OK)
	gets(t, "the first disk", d, rec(2), rec(1), api.OK)
}
