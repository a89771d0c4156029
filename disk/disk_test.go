package disk_test

import (
	"bytes"
	"math"
	"slices"
	"testing"

	"citadel/api"
	"citadel/disk"
)

func fill(x byte) []byte { return bytes.Repeat([]byte{x}, 64) }

// mixed returns 64 bytes that all differ, others for another start.
func mixed(start byte) []byte {
	b := make([]byte, 64)
	for i := range b {
		b[i] = start + byte(i)*3
	}
	return b
}

func made(t *testing.T, sectors int) *disk.Disk {
	t.Helper()
	d, e := disk.New(sectors)
	if e != api.OK || d == nil {
		t.Fatalf("New(%d) returns error %d", sectors, e)
	}
	return d
}

// do holds a call's error to be the one that is asked for.
func do(t *testing.T, what string, got, want api.Errno) {
	t.Helper()
	if got != want {
		t.Errorf("%s: error %d, want %d", what, got, want)
	}
}

// has holds sector i to read as now, and to have the flushed bytes.
func has(t *testing.T, d *disk.Disk, i int, now, flushed []byte) {
	t.Helper()
	if b, e := d.Read(i); e != api.OK || !bytes.Equal(b, now) {
		t.Errorf("Read(%d) = %v, %d, want %v", i, b, e, now)
	}
	if b := d.Flushed(i); !bytes.Equal(b, flushed) {
		t.Errorf("Flushed(%d) = %v, want %v", i, b, flushed)
	}
}

func dirty(t *testing.T, d *disk.Disk, want ...int) {
	t.Helper()
	if l := d.Dirty(); !slices.Equal(l, want) {
		t.Errorf("Dirty = %v, want %v", l, want)
	}
}

// P6.1 (New): the sizes that a disk may have; it is up, all zero, not armed, with nothing in the cache.
func TestNew(t *testing.T) {
	for _, n := range []int{1, 2, 3, 64, 323, 1023, 1024} {
		d := made(t, n)
		if d.Len() != n || !d.Up() {
			t.Errorf("New(%d): Len = %d, Up = %v", n, d.Len(), d.Up())
		}
		dirty(t, d)
		for i := range n {
			has(t, d, i, fill(0), fill(0))
		}
		for range 5 { // not armed
			do(t, "Write", d.Write(n-1, fill(1)), api.OK)
			do(t, "Flush", d.Flush(), api.OK)
		}
	}
}

// P6.1 (New): the sizes that no disk has.
func TestNewOfNoSize(t *testing.T) {
	for _, n := range []int{0, -1, -1024, 1025, 1026, 2048, math.MaxInt, math.MinInt, math.MinInt + 1, 1 << 32, 1<<32 + 5} {
		if d, e := disk.New(n); d != nil || e != api.ErrArg {
			t.Errorf("New(%d) = %v, %d, want ErrArg", n, d, e)
		}
	}
}

// P6.1 (New): each disk has its own sectors, cache and arming.
func TestDisksApart(t *testing.T) {
	a, b := made(t, 4), made(t, 4)
	do(t, "Write", a.Write(1, fill(1)), api.OK)
	do(t, "Write", b.Write(2, fill(2)), api.OK)
	dirty(t, a, 1)
	dirty(t, b, 2)
	do(t, "Arm", a.Arm(1, nil), api.OK)
	do(t, "Flush", b.Flush(), api.OK)
	dirty(t, a, 1)
	do(t, "Crash", a.Crash(nil), api.OK)
	if !b.Up() || a.Up() {
		t.Errorf("Up = %v, %v", a.Up(), b.Up())
	}
	has(t, b, 1, fill(0), fill(0))
	has(t, b, 2, fill(2), fill(2))
}

// P6.1 (Read), P6.2 (Write): what is read is what is in the cache, else what was flushed; every sector has its own.
func TestReadAndWrite(t *testing.T) {
	for _, n := range []int{1, 2, 12, 1024} {
		d := made(t, n)
		for i := range n {
			do(t, "Write", d.Write(i, mixed(byte(i+i/256))), api.OK)
		}
		for i := range n {
			has(t, d, i, mixed(byte(i+i/256)), fill(0))
		}
		do(t, "Flush", d.Flush(), api.OK)
		for i := n - 1; i >= 0; i -= 2 {
			do(t, "Write", d.Write(i, fill(200)), api.OK)
		}
		for i := range n {
			if (n-1-i)%2 == 0 {
				has(t, d, i, fill(200), mixed(byte(i+i/256)))
			} else {
				has(t, d, i, mixed(byte(i+i/256)), mixed(byte(i+i/256)))
			}
		}
	}
}

// P6.2 (Write): the last one counts; the others are not flushed.
func TestWriteAgain(t *testing.T) {
	d := made(t, 3)
	for x := range byte(20) {
		do(t, "Write", d.Write(1, mixed(x)), api.OK)
		has(t, d, 1, mixed(x), fill(0))
		dirty(t, d, 1)
	}
	do(t, "Flush", d.Flush(), api.OK)
	has(t, d, 1, mixed(19), mixed(19))
	do(t, "Write", d.Write(1, fill(0)), api.OK)
	has(t, d, 1, fill(0), mixed(19))
}

// P6.1 (Read), P6.2 (Write), P6.4 (Flushed): sectors that a disk does not have.
func TestNoSector(t *testing.T) {
	for _, n := range []int{1, 12, 1024} {
		d := made(t, n)
		for _, i := range []int{-1, n, n + 1, -n, math.MaxInt, math.MinInt, 1 << 32, -1 << 32} {
			if b, e := d.Read(i); b != nil || e != api.ErrSector {
				t.Errorf("of %d sectors: Read(%d) = %v, %d, want ErrSector", n, i, b, e)
			}
			do(t, "Write", d.Write(i, fill(1)), api.ErrSector)
			if b := d.Flushed(i); b != nil {
				t.Errorf("of %d sectors: Flushed(%d) = %v", n, i, b)
			}
		}
		dirty(t, d)
		has(t, d, 0, fill(0), fill(0))
		has(t, d, n-1, fill(0), fill(0))
		do(t, "Write of the last one", d.Write(n-1, fill(1)), api.OK)
	}
}

// P6.2 (Write): all bytes of a sector, no more and no fewer.
func TestWriteOfOtherSize(t *testing.T) {
	d := made(t, 12)
	for _, n := range []int{0, 1, 32, 62, 63, 65, 66, 127, 128, 192, 4096, 1 << 20} {
		do(t, "Write", d.Write(1, make([]byte, n, n+64)), api.ErrArg)
	}
	do(t, "Write of nil", d.Write(1, nil), api.ErrArg)
	dirty(t, d)
	do(t, "Write of 64 bytes", d.Write(1, make([]byte, 64, 200)), api.OK)
	dirty(t, d, 1)
}

// P6.2 (Write): a sector is in the cache though it is written with what it has.
func TestWriteOfTheSame(t *testing.T) {
	d := made(t, 3)
	do(t, "Write", d.Write(2, fill(0)), api.OK)
	dirty(t, d, 2)
	do(t, "Flush", d.Flush(), api.OK)
	dirty(t, d)
	do(t, "Write", d.Write(0, fill(5)), api.OK)
	do(t, "Flush", d.Flush(), api.OK)
	do(t, "Write", d.Write(0, fill(5)), api.OK)
	dirty(t, d, 0)
	// So it takes a bit of its own in a crash.
	do(t, "Write", d.Write(1, fill(6)), api.OK)
	do(t, "Crash", d.Crash([]byte{0b10}), api.OK)
	for i, x := range []byte{5, 6, 0} {
		if !bytes.Equal(d.Flushed(i), fill(x)) {
			t.Errorf("Flushed(%d) = %v", i, d.Flushed(i))
		}
	}
}

// P6.2 (Flush): every cached sector gets its contents, the others keep theirs, and the cache is empty.
func TestFlush(t *testing.T) {
	for _, n := range []int{1, 2, 12, 1024} {
		d := made(t, n)
		do(t, "Flush of nothing", d.Flush(), api.OK)
		for i := 0; i < n; i += 3 {
			do(t, "Write", d.Write(i, mixed(byte(i+1))), api.OK)
		}
		do(t, "Flush", d.Flush(), api.OK)
		dirty(t, d)
		do(t, "Flush again", d.Flush(), api.OK)
		for i := range n {
			want := fill(0)
			if i%3 == 0 {
				want = mixed(byte(i + 1))
			}
			has(t, d, i, want, want)
		}
		if !d.Up() {
			t.Error("Flush brings the disk down")
		}
	}
}

// P6.4 (Dirty): ascending, each once, whatever the order in which they are written.
func TestDirty(t *testing.T) {
	d := made(t, 1024)
	var want []int
	for i := range 1024 {
		do(t, "Write", d.Write((i*389+7)%1024, fill(byte(i))), api.OK)
		want = append(want, (i*389+7)%1024)
		if i%100 == 0 || i == 1023 {
			slices.Sort(want)
			dirty(t, d, want...)
		}
	}
	do(t, "Write", d.Write(500, fill(1)), api.OK)
	dirty(t, d, want...)
	do(t, "Flush", d.Flush(), api.OK)
	dirty(t, d)
	do(t, "Write", d.Write(1023, fill(1)), api.OK)
	do(t, "Write", d.Write(0, fill(1)), api.OK)
	dirty(t, d, 0, 1023)
}

// P6.4 (Up, Len, Flushed): of a disk that is up, down, and up again.
func TestUpAndLen(t *testing.T) {
	d := made(t, 7)
	do(t, "Write", d.Write(3, fill(3)), api.OK)
	do(t, "Flush", d.Flush(), api.OK)
	do(t, "Write", d.Write(3, fill(4)), api.OK)
	for range 3 {
		if !d.Up() || d.Len() != 7 {
			t.Errorf("Up = %v, Len = %d", d.Up(), d.Len())
		}
		do(t, "Crash", d.Crash(nil), api.OK)
		if d.Up() || d.Len() != 7 || !bytes.Equal(d.Flushed(3), fill(3)) || !bytes.Equal(d.Flushed(6), fill(0)) || d.Flushed(7) != nil || d.Flushed(-1) != nil {
			t.Errorf("down: Up = %v, Len = %d, Flushed = %v", d.Up(), d.Len(), d.Flushed(3))
		}
		dirty(t, d)
		do(t, "Start", d.Start(), api.OK)
	}
}

// P6.3 (Start): only a disk that is down is started; Start changes nothing else.
func TestStart(t *testing.T) {
	d := made(t, 3)
	do(t, "Write", d.Write(1, fill(1)), api.OK)
	do(t, "Start of a new disk", d.Start(), api.ErrArg)
	has(t, d, 1, fill(1), fill(0))
	dirty(t, d, 1)
	do(t, "Crash", d.Crash([]byte{1}), api.OK)
	do(t, "Start", d.Start(), api.OK)
	do(t, "Start again", d.Start(), api.ErrArg)
	if !d.Up() {
		t.Error("not up")
	}
	has(t, d, 1, fill(1), fill(1))
	dirty(t, d)
	do(t, "Write", d.Write(1, fill(2)), api.OK)
	do(t, "Flush", d.Flush(), api.OK)
	has(t, d, 1, fill(2), fill(2))
}

// P6.3 (Start): a refused one does not disarm.
func TestStartLeavesArming(t *testing.T) {
	d := made(t, 3)
	do(t, "Arm", d.Arm(2, nil), api.OK)
	do(t, "Start", d.Start(), api.ErrArg)
	do(t, "Write", d.Write(0, fill(1)), api.OK)
	do(t, "Start", d.Start(), api.ErrArg)
	do(t, "Write", d.Write(0, fill(1)), api.ErrDown)
}

// P6.1 to P6.4: the calls on a disk that is down, with arguments that are right and wrong.
func TestDown(t *testing.T) {
	d := made(t, 3)
	do(t, "Write", d.Write(1, fill(1)), api.OK)
	do(t, "Write", d.Write(2, fill(2)), api.OK)
	do(t, "Crash", d.Crash([]byte{1}), api.OK)
	for _, i := range []int{0, 1, 2, 3, -1} {
		if b, e := d.Read(i); b != nil || e != api.ErrDown {
			t.Errorf("Read(%d) = %v, %d, want ErrDown", i, b, e)
		}
		for _, b := range [][]byte{fill(7), fill(7)[:63], nil} {
			do(t, "Write", d.Write(i, b), api.ErrDown)
		}
	}
	do(t, "Flush", d.Flush(), api.ErrDown)
	do(t, "Crash", d.Crash([]byte{255}), api.ErrDown)
	for _, at := range []int{1, 5, 0, -1} {
		do(t, "Arm", d.Arm(at, []byte{255}), api.ErrDown)
	}
	dirty(t, d)
	for i, x := range []byte{0, 1, 0} {
		if d.Up() || d.Len() != 3 || !bytes.Equal(d.Flushed(i), fill(x)) {
			t.Errorf("Up = %v, Len = %d, Flushed(%d) = %v", d.Up(), d.Len(), i, d.Flushed(i))
		}
	}
	// What was refused has no effect later either.
	do(t, "Start", d.Start(), api.OK)
	for range 6 {
		do(t, "Flush", d.Flush(), api.OK)
	}
	for i, x := range []byte{0, 1, 0} {
		has(t, d, i, fill(x), fill(x))
	}
}

// The chapter's examples.
func TestExamples(t *testing.T) {
	a, b := fill(1), fill(2)
	d := made(t, 3)
	do(t, "Write", d.Write(2, a), api.OK)
	do(t, "Write", d.Write(0, b), api.OK)
	dirty(t, d, 0, 2)
	do(t, "Crash", d.Crash([]byte{2}), api.OK)
	if d.Flushed(2)[0] != 1 || d.Flushed(0)[0] != 0 {
		t.Errorf("Flushed = %v, %v", d.Flushed(2), d.Flushed(0))
	}
	if x, e := d.Read(0); x != nil || e != api.ErrDown {
		t.Errorf("Read = %v, %d", x, e)
	}
	do(t, "Start", d.Start(), api.OK)
	has(t, d, 2, a, a)
	do(t, "Arm", d.Arm(2, nil), api.OK)
	do(t, "Write", d.Write(1, a), api.OK)
	do(t, "Flush", d.Flush(), api.ErrDown)
	if d.Up() {
		t.Error("Up")
	}
	d = made(t, 12)
	do(t, "Write(12)", d.Write(12, a), api.ErrSector)
	do(t, "Write(-1)", d.Write(-1, a), api.ErrSector)
	do(t, "Write of 63", d.Write(1, a[:63]), api.ErrArg)
}
