package slot_test

import (
	"math/rand"
	"testing"

	"citadel/api"
	"citadel/disk"
	"citadel/slot"
)

// inPieces writes b into the slot from at on, in pieces of the sizes that next tells.
func inPieces(t *testing.T, d *disk.Disk, which, at int, b []byte, next func() int) {
	t.Helper()
	for len(b) > 0 {
		n := min(next(), len(b))
		do(t, "Write", slot.Write(d, which, at, b[:n]), api.OK)
		at, b = at+n, b[n:]
	}
}

// P15.3: bytes written in consecutive pieces of any size are read back; no other byte of the disk has changed.
func TestRoundTrip(t *testing.T) {
	for which := range 2 {
		for _, size := range []int{1, 2, 3, 7, 16, 31, 32, 33, 63, 64, 65, 127, 128, 129, 1000, 4095, 4096} {
			for _, n := range []int{1, 64, 65, 500, 4095, 4096} {
				d, twin := used(t, 200), used(t, 200)
				b := mixed(n, size)
				inPieces(t, d, which, 0, b, func() int { return size })
				reads(t, d, which, n, b, api.OK)
				gets(t, d, which, n, digest(b), b, api.OK)
				do(t, "Write", wrote(twin, which, 0, b), api.OK)
				alike(t, d, twin)
			}
		}
	}
}

// P15.3: the same with pieces of drawn sizes, none among them, from drawn positions, into both slots by turns, through a flush and a crash.
func TestRoundTripDrawn(t *testing.T) {
	r := rand.New(rand.NewSource(15))
	for range 60 {
		d, twin := used(t, api.Sectors), used(t, api.Sectors)
		for range 4 {
			which, at := r.Intn(2), r.Intn(4097)
			b := mixed(r.Intn(4097-at), r.Intn(256))
			inPieces(t, d, which, at, b, func() int { return r.Intn(1 + r.Intn(300)) })
			do(t, "Write", wrote(twin, which, at, b), api.OK)
			want, _ := readOut(twin, which, at+len(b))
			reads(t, d, which, at+len(b), want, api.OK)
			alike(t, d, twin)
		}
		for _, x := range []*disk.Disk{d, twin} {
			do(t, "Flush", x.Flush(), api.OK)
			do(t, "Crash", x.Crash(nil), api.OK)
			do(t, "Start", x.Start(), api.OK)
		}
		alike(t, d, twin)
	}
}

// P15.3: a slot does not change with the other one, nor with the sectors around them.
func TestSlotsApart(t *testing.T) {
	d, slots := fully(t, false)
	for which := range 2 {
		other := slots[1-which]
		do(t, "Write", slot.Write(d, which, 0, make([]byte, 4096)), api.OK)
		reads(t, d, 1-which, 4096, other, api.OK)
		reads(t, d, which, 4096, make([]byte, 4096), api.OK)
		do(t, "Write", slot.Write(d, which, 0, slots[which]), api.OK)
	}
	for _, i := range []int{0, 1, 2, 131, 132, 322} {
		do(t, "Write", d.Write(i, make([]byte, 64)), api.OK)
	}
	for which, all := range slots {
		reads(t, d, which, 4096, all, api.OK)
	}
}

// P15.4: each byte of those asked for counts, and none behind them.
func TestIntegrity(t *testing.T) {
	for which := range 2 {
		for _, n := range []int{1, 63, 64, 65, 200, 4096} {
			d, slots := fully(t, true)
			all := slots[which]
			right := digest(all[:n])
			for at := 0; at < 4096; at += 1 + at/130 {
				do(t, "Write", slot.Write(d, which, at, []byte{^all[at]}), api.OK)
				if at < n {
					gets(t, d, which, n, right, nil, api.ErrSlot)
				} else {
					gets(t, d, which, n, right, all[:n], api.OK)
				}
				do(t, "Write", slot.Write(d, which, at, all[at:at+1]), api.OK)
			}
			gets(t, d, which, n, right, all[:n], api.OK)
		}
	}
}

// step does one drawn thing to both disks, and holds them to be alike behind it.
func step(x twins, r *rand.Rand) {
	sectors := x.twin.Len()
	which, n := r.Intn(2), r.Intn(300)
	if r.Intn(20) == 0 {
		which = r.Intn(5) - 2
	}
	if r.Intn(5) == 0 {
		n = r.Intn(4200)
	}
	stay := mixed(r.Intn(20), r.Intn(256))
	switch r.Intn(12) {
	case 0:
		x.both((*disk.Disk).Flush)
	case 1:
		at := r.Intn(30)
		x.both(func(d *disk.Disk) api.Errno { return d.Arm(at, stay) })
	case 2:
		if r.Intn(4) == 0 {
			x.both(func(d *disk.Disk) api.Errno { return d.Crash(stay) })
		}
	case 3, 4:
		x.both((*disk.Disk).Start)
	case 5:
		i := r.Intn(sectors)
		x.both(func(d *disk.Disk) api.Errno { return d.Write(i, mixed(64, n)) })
	case 6:
		x.read(which, n-5)
	case 7:
		b, _ := readOut(x.twin, which, n-r.Intn(3))
		x.get(which, n, digest(b))
	default:
		x.write(which, r.Intn(4200)-50, mixed(n, r.Intn(256)))
	}
}

// P15.1, P15.2, P15.3, P15.4: drawn calls on disks of any size, with flushes and crashes in between, do and return what the definitions say.
func TestDrawnCalls(t *testing.T) {
	r := rand.New(rand.NewSource(1515))
	for _, sectors := range []int{1, 4, 40, 67, 100, 131, api.Sectors, 1024} {
		for range 8 {
			x := pair(t, sectors)
			for range 60 {
				step(x, r)
			}
		}
	}
}
