package disk_test

import (
	"bytes"
	"math"
	"testing"

	"citadel/api"
	"citadel/disk"
)

// loaded returns a disk on which every sector i has fill(1) flushed and, if it is one of the cached, fill(2) in the cache.
func loaded(t *testing.T, sectors int, cached ...int) *disk.Disk {
	t.Helper()
	d := made(t, sectors)
	for i := range sectors {
		do(t, "Write", d.Write(i, fill(1)), api.OK)
	}
	do(t, "Flush", d.Flush(), api.OK)
	for _, i := range cached {
		do(t, "Write", d.Write(i, fill(2)), api.OK)
	}
	return d
}

// kept holds a crashed disk to be down, with an empty cache, and just those sectors to have their cached contents.
func kept(t *testing.T, d *disk.Disk, want ...int) {
	t.Helper()
	if d.Up() {
		t.Error("a crashed disk is up")
	}
	dirty(t, d)
	stays := map[int]int{}
	for _, i := range want {
		stays[i] = 1
	}
	for i := range d.Len() {
		if b := d.Flushed(i); !bytes.Equal(b, fill(byte(1+stays[i]))) {
			t.Errorf("Flushed(%d) = %v, want %d", i, b, 1+stays[i])
		}
	}
}

func upTo(n int) []int {
	l := make([]int, n)
	for i := range l {
		l[i] = i
	}
	return l
}

// P6.3 (Crash): which cached sector each bit means.
func TestBits(t *testing.T) {
	cached := []int{40, 3, 11, 5, 30, 8, 9, 19, 22, 39, 0, 13, 21, 7, 33, 26, 35} // written in no order
	ascending := []int{0, 3, 5, 7, 8, 9, 11, 13, 19, 21, 22, 26, 30, 33, 35, 39, 40}
	for n, i := range ascending {
		stay := make([]byte, 3)
		stay[n/8] = 1 << (n % 8)
		d := loaded(t, 42, cached...)
		do(t, "Crash", d.Crash(stay), api.OK)
		kept(t, d, i)
		d = loaded(t, 42, cached...)
		for x := range stay {
			stay[x] ^= 255
		}
		do(t, "Crash", d.Crash(stay), api.OK)
		kept(t, d, append(append([]int{}, ascending[:n]...), ascending[n+1:]...)...)
	}
}

// P6.3 (Crash): the same on the greatest disk, whose every sector is in the cache.
func TestBitsOfGreatestDisk(t *testing.T) {
	all := upTo(1024)
	for _, n := range []int{0, 7, 8, 255, 256, 511, 512, 1016, 1023} {
		stay := make([]byte, 128)
		stay[n/8] = 1 << (n % 8)
		d := loaded(t, 1024, all...)
		do(t, "Crash", d.Crash(stay), api.OK)
		kept(t, d, n)
	}
	d := loaded(t, 1024, all...)
	do(t, "Crash", d.Crash(bytes.Repeat([]byte{255}, 128)), api.OK)
	kept(t, d, all...)
	d = loaded(t, 1024, all...)
	do(t, "Crash", d.Crash(bytes.Repeat([]byte{255}, 127)), api.OK)
	kept(t, d, all[:1016]...)
}

// P6.3 (Crash): bits beyond the end of the bytes are 0, whatever lies behind them in memory; more bytes than are needed do no harm.
func TestFewAndManyBytes(t *testing.T) {
	all := upTo(12)
	ones := bytes.Repeat([]byte{255}, 5000)
	for _, c := range []struct {
		stay []byte
		want []int
	}{
		{nil, nil}, {[]byte{}, nil}, {ones[:0], nil}, {ones[:1], all[:8]}, {ones[:2], all}, {ones[:3], all}, {ones[:128], all}, {ones[:129], all}, {ones, all},
		{[]byte{0}, nil}, {[]byte{0, 0, 255, 255}, nil}, {[]byte{0, 0b11110000}, nil}, {[]byte{0, 0b11111000}, []int{11}}, {append([]byte{4}, make([]byte, 3000)...), []int{2}},
		{[]byte{0b10000001, 0b00000010}, []int{0, 7, 9}},
	} {
		d := loaded(t, 12, all...)
		do(t, "Crash", d.Crash(c.stay), api.OK)
		kept(t, d, c.want...)
	}
	d := loaded(t, 12, all[2:]...)
	do(t, "Crash", d.Crash([]byte{0b10000001, 0b00000010}), api.OK)
	kept(t, d, 2, 9, 11)
}

// P6.3 (Crash): with an empty cache nothing changes but that the disk is down.
func TestCrashOfEmptyCache(t *testing.T) {
	for _, n := range []int{1, 9, 1024} {
		for _, stay := range [][]byte{nil, {0}, {255, 255}, bytes.Repeat([]byte{255}, 200)} {
			d := loaded(t, n)
			do(t, "Crash", d.Crash(stay), api.OK)
			kept(t, d)
			do(t, "Crash again", d.Crash(stay), api.ErrDown)
			do(t, "Start", d.Start(), api.OK)
			do(t, "Crash", d.Crash(stay), api.OK)
			kept(t, d)
		}
	}
}

// P6.3 (Crash): cached contents that were lost are not to be had any more.
func TestLost(t *testing.T) {
	d := loaded(t, 4, 1, 2)
	do(t, "Crash", d.Crash([]byte{0b10}), api.OK)
	do(t, "Start", d.Start(), api.OK)
	has(t, d, 1, fill(1), fill(1))
	has(t, d, 2, fill(2), fill(2))
	do(t, "Flush", d.Flush(), api.OK)
	do(t, "Crash", d.Crash([]byte{255}), api.OK)
	kept(t, d, 2)
}

// The calls that count for an armed disk.
func operations(d *disk.Disk) []func() api.Errno {
	return []func() api.Errno{
		func() api.Errno { return d.Write(0, fill(2)) },
		func() api.Errno { return d.Flush() },
	}
}

// P6.3 (Arm): the crash comes at the operation that was said, neither earlier nor later, be it a Write or a Flush.
func TestArm(t *testing.T) {
	for at := 1; at <= 6; at++ {
		for script := range 1 << at {
			d := loaded(t, 3)
			do(t, "Arm", d.Arm(at, nil), api.OK)
			for n := 1; n <= at; n++ {
				want := api.OK
				if n == at {
					want = api.ErrDown
				}
				do(t, "operation", operations(d)[script>>(n-1)&1](), want)
				if d.Up() != (n < at) {
					t.Fatalf("armed at %d: Up = %v at operation %d", at, d.Up(), n)
				}
			}
		}
	}
}

// P6.3 (Arm): what the operation was to do at which the disk crashes is not done.
func TestCrashedOperation(t *testing.T) {
	d := loaded(t, 4, 1, 2)
	do(t, "Arm", d.Arm(1, []byte{255}), api.OK)
	do(t, "Write", d.Write(0, fill(9)), api.ErrDown)
	kept(t, d, 1, 2)
	d = loaded(t, 4, 1, 2)
	do(t, "Arm", d.Arm(1, []byte{0b10}), api.OK)
	do(t, "Write", d.Write(2, fill(9)), api.ErrDown) // an earlier Write had put it into the cache
	kept(t, d, 2)
	d = loaded(t, 4, 1, 2)
	do(t, "Arm", d.Arm(1, []byte{0b10}), api.OK)
	do(t, "Write", d.Write(3, fill(9)), api.ErrDown)
	kept(t, d, 2)
	d = loaded(t, 4, 1, 2)
	do(t, "Arm", d.Arm(1, []byte{0b01}), api.OK)
	do(t, "Flush", d.Flush(), api.ErrDown)
	kept(t, d, 1)
}

// P6.3 (Arm): what survives is told by the sectors that are in the cache at the crash, not at the arming.
func TestArmedBits(t *testing.T) {
	d := loaded(t, 6, 4)
	do(t, "Arm", d.Arm(4, []byte{0b101}), api.OK)
	do(t, "Write", d.Write(2, fill(2)), api.OK)
	do(t, "Write", d.Write(5, fill(2)), api.OK)
	do(t, "Write", d.Write(0, fill(2)), api.OK)
	do(t, "Flush", d.Flush(), api.ErrDown)
	kept(t, d, 0, 4)
	d = loaded(t, 6, 4)
	do(t, "Arm", d.Arm(3, []byte{0b1}), api.OK)
	do(t, "Flush", d.Flush(), api.OK)
	do(t, "Write", d.Write(2, fill(2)), api.OK)
	do(t, "Write", d.Write(1, fill(2)), api.ErrDown)
	kept(t, d, 2, 4)
}

// P6.3 (Arm): calls that are refused, and those that are no operations, are not counted.
func TestNotCounted(t *testing.T) {
	d := loaded(t, 12)
	idle := func() {
		t.Helper()
		do(t, "Write(99)", d.Write(99, fill(7)), api.ErrSector)
		do(t, "Write(12)", d.Write(12, fill(7)), api.ErrSector)
		do(t, "Write(-1)", d.Write(-1, fill(7)), api.ErrSector)
		do(t, "Write of 63", d.Write(1, fill(7)[:63]), api.ErrArg)
		do(t, "Write of 65", d.Write(1, make([]byte, 65)), api.ErrArg)
		do(t, "Start", d.Start(), api.ErrArg)
		do(t, "Arm(0)", d.Arm(0, nil), api.ErrArg)
		for i := range 12 {
			if _, e := d.Read(i); e != api.OK || len(d.Flushed(i)) != 64 {
				t.Errorf("Read(%d): error %d", i, e)
			}
		}
		if _, e := d.Read(12); e != api.ErrSector || d.Flushed(12) != nil || !d.Up() || d.Len() != 12 || len(d.Dirty()) > 1 {
			t.Errorf("Read(12): error %d", e)
		}
	}
	do(t, "Arm", d.Arm(3, []byte{255}), api.OK)
	idle()
	do(t, "Write", d.Write(1, fill(7)), api.OK)
	idle()
	do(t, "Write", d.Write(1, fill(2)), api.OK)
	idle()
	do(t, "Flush", d.Flush(), api.ErrDown)
	kept(t, d, 1)
}

// P6.3 (Arm): a later arming replaces an earlier one, its number and its bytes.
func TestArmAgain(t *testing.T) {
	d := loaded(t, 4, 1, 2)
	do(t, "Arm", d.Arm(1, []byte{255}), api.OK)
	do(t, "Arm", d.Arm(3, []byte{0b10}), api.OK)
	do(t, "Write", d.Write(1, fill(2)), api.OK)
	do(t, "Write", d.Write(1, fill(2)), api.OK)
	do(t, "Flush", d.Flush(), api.ErrDown)
	kept(t, d, 2)
	d = loaded(t, 4, 1, 2)
	do(t, "Arm", d.Arm(9, nil), api.OK)
	do(t, "Write", d.Write(1, fill(2)), api.OK)
	do(t, "Arm", d.Arm(1, []byte{1}), api.OK)
	do(t, "Write", d.Write(1, fill(2)), api.ErrDown)
	kept(t, d, 1)
	do(t, "Start", d.Start(), api.OK)
	for range 12 {
		do(t, "Flush", d.Flush(), api.OK)
	}
}

// P6.3 (Arm): numbers below 1 are refused, and leave an earlier arming as it is.
func TestArmBelowOne(t *testing.T) {
	for _, at := range []int{0, -1, -2, math.MinInt, math.MinInt + 1} {
		d := loaded(t, 4, 1, 2)
		do(t, "Arm", d.Arm(at, []byte{255}), api.ErrArg)
		for range 5 {
			do(t, "Write", d.Write(1, fill(2)), api.OK)
		}
		do(t, "Arm", d.Arm(2, []byte{1}), api.OK)
		do(t, "Arm", d.Arm(at, []byte{255}), api.ErrArg)
		do(t, "Write", d.Write(1, fill(2)), api.OK)
		do(t, "Arm", d.Arm(at, []byte{255}), api.ErrArg)
		do(t, "Write", d.Write(3, fill(2)), api.ErrDown)
		kept(t, d, 1)
	}
}

// P6.3 (Arm): a crash far away.
func TestArmFarAway(t *testing.T) {
	d := loaded(t, 4)
	do(t, "Arm", d.Arm(math.MaxInt, nil), api.OK)
	for range 1000 {
		do(t, "Write", d.Write(1, fill(2)), api.OK)
	}
	do(t, "Flush", d.Flush(), api.OK)
	do(t, "Arm", d.Arm(1001, nil), api.OK)
	for range 1000 {
		do(t, "Write", d.Write(1, fill(2)), api.OK)
	}
	do(t, "Write", d.Write(1, fill(2)), api.ErrDown)
}

// P6.3 (Crash, Arm): after a crash, whichever it is, the disk is not armed.
func TestCrashDisarms(t *testing.T) {
	for i, crash := range []func(d *disk.Disk){
		func(d *disk.Disk) { do(t, "Crash", d.Crash(nil), api.OK) },
		func(d *disk.Disk) {
			do(t, "Write", d.Write(0, fill(1)), api.OK)
			do(t, "Crash", d.Crash([]byte{1}), api.OK)
		},
		func(d *disk.Disk) {
			do(t, "Flush", d.Flush(), api.OK)
			do(t, "Flush", d.Flush(), api.ErrDown)
		},
	} {
		d := loaded(t, 3)
		do(t, "Arm", d.Arm(2, []byte{255}), api.OK)
		crash(d)
		kept(t, d)
		do(t, "Start", d.Start(), api.OK)
		for range 6 {
			do(t, "Write", d.Write(1, fill(2)), api.OK)
			do(t, "Flush", d.Flush(), api.OK)
		}
		if !d.Up() {
			t.Errorf("way %d: still armed", i)
		}
	}
}
