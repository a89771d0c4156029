package slot_test

import (
	"fmt"
	"math"
	"testing"

	"citadel/api"
	"citadel/disk"
	"citadel/slot"
)

// fully returns a disk whose slots are full of bytes that are returned too, all flushed or all cached.
func fully(t *testing.T, flushed bool) (d *disk.Disk, bytes [2][]byte) {
	t.Helper()
	d = used(t, api.Sectors)
	for which := range 2 {
		bytes[which] = mixed(4096, 31*which+5)
		do(t, "Write", wrote(d, which, 0, bytes[which]), api.OK)
	}
	if flushed {
		do(t, "Flush", d.Flush(), api.OK)
	}
	return d, bytes
}

// P15.2 (Read), P15.2 (Get): the first bytes of each slot, for every count that it has.
func TestReadEveryCount(t *testing.T) {
	for _, flushed := range []bool{true, false} {
		d, slots := fully(t, flushed)
		for which, all := range slots {
			for n := range 4097 {
				b, e := slot.Read(d, which, n)
				answered(t, fmt.Sprint("Read ", n), b, e, all[:n], api.OK)
			}
			for _, n := range []int{0, 1, 2, 63, 64, 65, 127, 128, 129, 4031, 4032, 4033, 4095, 4096} {
				gets(t, d, which, n, digest(all[:n]), all[:n], api.OK)
			}
		}
	}
}

// P15.2 (Read), P15.2 (Get): which slots and counts are refused, with which error, whatever the hash is.
func TestReadRefuses(t *testing.T) {
	d, slots := fully(t, true)
	for _, c := range []struct {
		which, n int
		want     api.Errno
	}{
		{2, 0, api.ErrArg}, {-1, 0, api.ErrArg}, {2, 66, api.ErrArg}, {-1, 4096, api.ErrArg}, {3, 1, api.ErrArg}, {math.MaxInt, 1, api.ErrArg}, {math.MinInt, 1, api.ErrArg},
		{0, -1, api.ErrArg}, {1, -1, api.ErrArg}, {0, -64, api.ErrArg}, {1, -4096, api.ErrArg}, {0, math.MinInt, api.ErrArg}, {2, -1, api.ErrArg},
		{0, 4097, api.ErrFull}, {1, 4097, api.ErrFull}, {0, 4098, api.ErrFull}, {0, 8192, api.ErrFull}, {1, math.MaxInt, api.ErrFull}, {0, math.MaxInt - 1, api.ErrFull}, {0, 1 << 40, api.ErrFull},
		{2, 4097, api.ErrArg}, {-1, math.MaxInt, api.ErrArg}, {2, math.MinInt, api.ErrArg},
	} {
		reads(t, d, c.which, c.n, nil, c.want)
		for _, hash := range []api.Tag{{}, digest(nil), digest(slots[0]), digest(slots[1])} {
			gets(t, d, c.which, c.n, hash, nil, c.want)
		}
	}
}

// P15.2 (Read), P15.2 (Get): a disk that ends within the slot: only the sectors that hold one of the bytes count.
func TestReadSmallDisk(t *testing.T) {
	for _, c := range []struct {
		sectors, which, n int
		want              api.Errno
	}{
		{1, 0, 0, api.OK}, {1, 1, 0, api.OK}, {1, 0, 1, api.ErrSector}, {3, 0, 1, api.ErrSector}, {4, 0, 1, api.OK}, {4, 0, 64, api.OK}, {4, 0, 65, api.ErrSector}, {4, 0, 4096, api.ErrSector},
		{5, 0, 65, api.OK}, {5, 0, 128, api.OK}, {5, 0, 129, api.ErrSector}, {66, 0, 4032, api.OK}, {66, 0, 4033, api.ErrSector}, {67, 0, 4096, api.OK}, {67, 1, 0, api.OK}, {67, 1, 1, api.ErrSector},
		{68, 1, 64, api.OK}, {68, 1, 65, api.ErrSector}, {130, 1, 4032, api.OK}, {130, 1, 4033, api.ErrSector}, {131, 1, 4096, api.OK}, {131, 1, 4097, api.ErrFull}, {1, 1, 4097, api.ErrFull}, {1, 2, 1, api.ErrArg},
	} {
		x := pair(t, c.sectors)
		do(t, fmt.Sprint("Read ", c), x.read(c.which, c.n), c.want)
		b, _ := readOut(x.twin, c.which, c.n)
		do(t, fmt.Sprint("Get ", c), x.get(c.which, c.n, digest(b)), c.want)
		other := c.want
		if other == api.OK {
			other = api.ErrSlot
		}
		do(t, fmt.Sprint("Get, other hash ", c), x.get(c.which, c.n, api.Tag{1}), other)
	}
}

// P15.2 (Read): the cache counts, not what was last flushed; after a crash what survived it.
func TestReadCache(t *testing.T) {
	d := made(t, api.Sectors)
	do(t, "Write", slot.Write(d, 0, 63, []byte("ab")), api.OK)
	do(t, "Flush", d.Flush(), api.OK)
	do(t, "Write", slot.Write(d, 0, 63, []byte("xy")), api.OK)
	zeros := make([]byte, 63)
	reads(t, d, 0, 65, append(zeros, "xy"...), api.OK)
	do(t, "Crash", d.Crash([]byte{0b10}), api.OK)
	do(t, "Start", d.Start(), api.OK)
	reads(t, d, 0, 65, append(zeros, "ay"...), api.OK)
	gets(t, d, 0, 65, digest(append(zeros, "ay"...)), append(zeros, "ay"...), api.OK)
	gets(t, d, 0, 65, digest(append(zeros, "xy"...)), nil, api.ErrSlot)
}

// P0.2, P15.2: of several errors of Read and Get the first one counts.
func TestReadFirstError(t *testing.T) {
	small, down := made(t, 4), made(t, 4)
	do(t, "Crash", down.Crash(nil), api.OK)
	for _, c := range []struct {
		d        *disk.Disk
		which, n int
		want     api.Errno
	}{
		{nil, 2, -1, api.ErrNil}, {nil, 0, 4097, api.ErrNil}, {nil, 0, 0, api.ErrNil}, {&disk.Disk{}, 2, 4097, api.ErrNil}, {&disk.Disk{}, 0, -1, api.ErrNil}, {&disk.Disk{}, 1, 5, api.ErrNil},
		{down, 2, 4097, api.ErrArg}, {down, 0, -1, api.ErrArg}, {down, -1, 0, api.ErrArg}, {down, 0, 4097, api.ErrFull}, {down, 1, 1, api.ErrDown}, {down, 0, 65, api.ErrDown}, {down, 0, 0, api.ErrDown},
		{small, 2, 4097, api.ErrArg}, {small, 1, -1, api.ErrArg}, {small, 1, 4097, api.ErrFull}, {small, 1, 1, api.ErrSector}, {small, 0, 65, api.ErrSector},
	} {
		reads(t, c.d, c.which, c.n, nil, c.want)
		gets(t, c.d, c.which, c.n, api.Tag{9}, nil, c.want)
		gets(t, c.d, c.which, c.n, digest(nil), nil, c.want)
	}
}

// P15.2 (Get), P15.4: the digests of other bytes: fewer, more, the other slot's, none, one with any bit turned.
func TestGetOtherDigest(t *testing.T) {
	d, slots := fully(t, false)
	for which, all := range slots {
		for _, n := range []int{0, 1, 64, 66, 4095, 4096} {
			right := digest(all[:n])
			for _, m := range []int{0, 1, 63, 64, 65, 66, 4094, 4095, 4096} {
				if m != n {
					gets(t, d, which, n, digest(all[:m]), nil, api.ErrSlot)
				}
			}
			if n > 0 {
				gets(t, d, which, n, digest(slots[1-which][:n]), nil, api.ErrSlot)
				gets(t, d, which, n, digest(all[1:n]), nil, api.ErrSlot)
			}
			gets(t, d, which, n, api.Tag{}, nil, api.ErrSlot)
			for bit := range 256 {
				hash := right
				hash[bit/8] ^= 1 << (bit % 8)
				gets(t, d, which, n, hash, nil, api.ErrSlot)
			}
			gets(t, d, which, n, right, all[:n], api.OK)
		}
	}
}
