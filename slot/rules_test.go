package slot_test

import (
	"bytes"
	"math"
	"slices"
	"testing"

	"citadel/api"
	"citadel/disk"
	"citadel/slot"
)

func extremes() []int {
	return []int{math.MinInt, math.MinInt + 1, math.MinInt32, -1, 0, 1, 2, 3, 64, 4096, 4097, math.MaxInt32, math.MaxUint32, 1 << 40, math.MaxInt - 4096, math.MaxInt - 1, math.MaxInt}
}

// P0.1: every call on a disk that is nil, or that New did not create, returns ErrNil, whatever else it is given.
func TestNoDisk(t *testing.T) {
	var empty disk.Disk
	for _, d := range []*disk.Disk{nil, {}, new(disk.Disk), &empty} {
		for _, which := range extremes() {
			for _, x := range extremes() {
				for _, b := range [][]byte{nil, []byte("ab"), make([]byte, 4097)} {
					do(t, "Write", slot.Write(d, which, x, b), api.ErrNil)
				}
				reads(t, d, which, x, nil, api.ErrNil)
				gets(t, d, which, x, digest(nil), nil, api.ErrNil)
				gets(t, d, which, x, api.Tag{}, nil, api.ErrNil)
			}
		}
		if d.Len() != 0 || d.Up() || d.Dirty() != nil {
			t.Error("a disk came of nothing")
		}
	}
}

// P0.1, P0.2: every call returns, whatever it is given, with the first error, and with no bytes beside an error.
func TestAllArguments(t *testing.T) {
	for _, sectors := range []int{1, 5, 67, api.Sectors} {
		for _, down := range []bool{false, true} {
			x := pair(t, sectors)
			if down {
				x.both(func(d *disk.Disk) api.Errno { return d.Crash([]byte{7}) })
			}
			for _, which := range extremes() {
				for _, n := range extremes() {
					for _, b := range [][]byte{nil, []byte("ab"), mixed(65, n), make([]byte, 1<<17)} {
						do(t, "Write", slot.Write(x.d, which, n, b), wrote(x.twin, which, n, b))
					}
					want, f := readOut(x.twin, which, n)
					reads(t, x.d, which, n, want, f)
					want, f = got(x.twin, which, n, api.Tag{1})
					gets(t, x.d, which, n, api.Tag{1}, want, f)
				}
			}
			alike(t, x.d, x.twin)
		}
	}
}

// P0.3: calls that are refused, and all of Read and Get, change nothing, the operations that an armed disk counts among it.
func TestRefusalsChangeNothing(t *testing.T) {
	d, twin := used(t, api.Sectors), used(t, api.Sectors)
	for _, x := range []*disk.Disk{d, twin} {
		do(t, "Arm", x.Arm(2, []byte{0xff}), api.OK)
	}
	for _, which := range extremes() {
		for _, n := range extremes() {
			slot.Read(d, which, n)
			slot.Get(d, which, n, api.Tag{})
			if refused(d, which, n, 4097) == api.OK || slot.Write(d, which, n, make([]byte, 4097)) == api.OK {
				t.Errorf("Write(%d, %d) of 4097 bytes is not refused", which, n)
			}
			slot.Write(d, which, n, nil)
		}
	}
	alike(t, d, twin)
	for _, want := range []api.Errno{api.OK, api.ErrDown} {
		do(t, "Write", slot.Write(d, 0, 5, []byte("a")), want)
		do(t, "Write", wrote(twin, 0, 5, []byte("a")), want)
		alike(t, d, twin)
	}
}

// P0.4 (Write): what is passed is neither changed, nor what lies beyond its length, which is not written; nor is it kept.
func TestWriteKeepsNothing(t *testing.T) {
	for _, n := range []int{0, 1, 63, 64, 65, 128, 4000} {
		for _, at := range []int{0, 1, 63, 64, 96} {
			long := slices.Concat([]byte("####"), mixed(n, at), make([]byte, 200), []byte("########"))
			before := bytes.Clone(long)
			d, twin := used(t, 140), used(t, 140)
			do(t, "Write", slot.Write(d, 1, at, long[4:4+n]), api.OK)
			do(t, "Write", wrote(twin, 1, at, mixed(n, at)), api.OK)
			alike(t, d, twin)
			if !bytes.Equal(long, before) {
				t.Errorf("%d bytes at %d: changed what was passed", n, at)
			}
			spoil(long)
			alike(t, d, twin)
			do(t, "Write", slot.Write(d, 1, 0, make([]byte, 4096)), api.OK)
			if bytes.ContainsFunc(long, func(r rune) bool { return r != 99 }) {
				t.Errorf("%d bytes at %d: a later Write changed what was passed", n, at)
			}
		}
	}
}

// spoil writes over a slice and what lies beyond its length.
func spoil(b []byte) {
	b = b[:cap(b)]
	for i := range b {
		b[i] = 99
	}
}

// P0.4 (Read, Get): what is returned is new memory, with its capacity.
func TestAnswersAreNew(t *testing.T) {
	for _, flushed := range []bool{true, false} {
		for _, n := range []int{0, 1, 63, 64, 65, 100, 4096} {
			d, slots := fully(t, flushed)
			twin, _ := fully(t, flushed)
			hash := digest(slots[1][:n])
			for range 2 {
				read, _ := slot.Read(d, 1, n)
				again, _ := slot.Read(d, 1, n)
				get, _ := slot.Get(d, 1, n, hash)
				other, _ := slot.Get(d, 1, n, hash)
				spoil(read)
				spoil(get)
				if !bytes.Equal(again, slots[1][:n]) || !bytes.Equal(other, slots[1][:n]) {
					t.Errorf("%d bytes: two answers share memory", n)
				}
				alike(t, d, twin)
			}
			read, _ := slot.Read(d, 1, n)
			get, _ := slot.Get(d, 1, n, hash)
			do(t, "Write", slot.Write(d, 1, 0, make([]byte, 4096)), api.OK)
			do(t, "Flush", d.Flush(), api.OK)
			if !bytes.Equal(read, slots[1][:n]) || !bytes.Equal(get, slots[1][:n]) {
				t.Errorf("%d bytes: a later call changes what was returned", n)
			}
		}
	}
}

// P0.4: nil and empty slices are equivalent.
func TestNilIsEmpty(t *testing.T) {
	for _, b := range [][]byte{nil, {}, make([]byte, 9000)[:0]} {
		for _, c := range []struct {
			which, at int
			want      api.Errno
		}{{0, 0, api.OK}, {1, 4096, api.OK}, {1, 4097, api.ErrFull}, {0, -1, api.ErrArg}, {2, 0, api.ErrArg}} {
			d := made(t, api.Sectors)
			do(t, "Write", slot.Write(d, c.which, c.at, b), c.want)
			dirty(t, d)
		}
	}
}
