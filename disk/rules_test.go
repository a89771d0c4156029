package disk_test

import (
	"bytes"
	"math"
	"slices"
	"testing"

	"citadel/api"
	"citadel/disk"
)

// P0.1: each call on a nil disk, and on one that New did not create, returns ErrNil or the zero value, whatever it is given.
func TestNoDisk(t *testing.T) {
	var empty disk.Disk
	for _, d := range []*disk.Disk{nil, {}, new(disk.Disk), &empty} {
		for range 2 {
			for _, i := range []int{0, 1, -1, 1024, math.MaxInt, math.MinInt} {
				if b, e := d.Read(i); b != nil || e != api.ErrNil {
					t.Errorf("Read(%d) = %v, %d, want ErrNil", i, b, e)
				}
				for _, b := range [][]byte{nil, fill(1), fill(1)[:63]} {
					do(t, "Write", d.Write(i, b), api.ErrNil)
				}
				for _, stay := range [][]byte{nil, {255}} {
					do(t, "Arm", d.Arm(i, stay), api.ErrNil)
					do(t, "Crash", d.Crash(stay), api.ErrNil)
				}
				if b := d.Flushed(i); b != nil {
					t.Errorf("Flushed(%d) = %v", i, b)
				}
			}
			do(t, "Flush", d.Flush(), api.ErrNil)
			do(t, "Start", d.Start(), api.ErrNil)
			if d.Up() || d.Len() != 0 || d.Dirty() != nil {
				t.Errorf("Up = %v, Len = %d, Dirty = %v", d.Up(), d.Len(), d.Dirty())
			}
		}
	}
}

// P0.2: of several errors the first one counts.
func TestFirstError(t *testing.T) {
	d := made(t, 12)
	do(t, "Arm", d.Arm(1, nil), api.OK)
	for _, b := range [][]byte{nil, fill(1)[:63], make([]byte, 65)} {
		do(t, "no sector, other bytes, crash", d.Write(12, b), api.ErrSector)
		do(t, "no sector, other bytes, crash", d.Write(-1, b), api.ErrSector)
		do(t, "other bytes, crash", d.Write(11, b), api.ErrArg)
	}
	if !d.Up() {
		t.Error("a Write that is refused brings the disk down")
	}
	do(t, "crash", d.Write(11, fill(1)), api.ErrDown)
	do(t, "down, no sector, other bytes", d.Write(12, nil), api.ErrDown)
	do(t, "down, other bytes", d.Write(11, nil), api.ErrDown)
	do(t, "down, below 1", d.Arm(0, nil), api.ErrDown)
	if b, e := d.Read(12); b != nil || e != api.ErrDown {
		t.Errorf("down, no sector: Read = %v, %d", b, e)
	}
}

// P0.3: calls that are refused change nothing, on a disk that is up with a cache, armed, or down.
func TestRefusalsChangeNothing(t *testing.T) {
	d, twin := loaded(t, 5, 3, 1), loaded(t, 5, 3, 1)
	refuse := func() {
		t.Helper()
		for _, e := range []api.Errno{d.Write(5, fill(9)), d.Write(-1, fill(9)), d.Write(3, nil), d.Write(0, make([]byte, 65)), d.Arm(0, []byte{255}), d.Arm(-7, nil), d.Start()} {
			if e == api.OK {
				t.Error("not refused")
			}
		}
		d.Read(5)
		alike(t, d, twin)
	}
	refuse()
	for _, x := range []*disk.Disk{d, twin} {
		do(t, "Arm", x.Arm(2, []byte{0b10}), api.OK)
	}
	refuse()
	for _, x := range []*disk.Disk{d, twin} {
		do(t, "Write", x.Write(0, fill(2)), api.OK)
	}
	refuse()
	for _, x := range []*disk.Disk{d, twin} {
		do(t, "Flush", x.Flush(), api.ErrDown)
		kept(t, x, 1)
	}
	do(t, "Write", d.Write(0, fill(9)), api.ErrDown)
	do(t, "Crash", d.Crash([]byte{255}), api.ErrDown)
	do(t, "Arm", d.Arm(1, []byte{255}), api.ErrDown)
	do(t, "Flush", d.Flush(), api.ErrDown)
	alike(t, d, twin)
	for _, x := range []*disk.Disk{d, twin} {
		do(t, "Start", x.Start(), api.OK)
		do(t, "Flush", x.Flush(), api.OK)
	}
	alike(t, d, twin)
}

// P0.4 (Write): what is passed is neither changed, nor what lies beyond its length, nor kept.
func TestWriteKeepsNothing(t *testing.T) {
	d := made(t, 3)
	whole := bytes.Repeat([]byte{7}, 200)
	do(t, "Write", d.Write(1, whole[10:74]), api.OK)
	has(t, d, 1, fill(7), fill(0))
	clear(whole)
	has(t, d, 1, fill(7), fill(0))
	do(t, "Flush", d.Flush(), api.OK)
	whole[20] = 5
	has(t, d, 1, fill(7), fill(7))
	do(t, "Write", d.Write(1, fill(8)), api.OK)
	do(t, "Flush", d.Flush(), api.OK)
	whole[20] = 0
	if !bytes.Equal(whole, make([]byte, 200)) {
		t.Errorf("changed what was passed: %v", whole)
	}
}

// P0.4 (Crash, Arm): what is passed is neither changed, nor what lies beyond its length, nor kept.
func TestStayIsNotKept(t *testing.T) {
	for _, n := range []int{0, 1, 2, 128, 200} {
		whole := bytes.Repeat([]byte{0b01010101}, n+300)
		passed := bytes.Clone(whole)
		var want []int
		for i := 0; i < min(12, 8*n); i += 2 {
			want = append(want, i)
		}
		d := loaded(t, 12, upTo(12)...)
		do(t, "Crash", d.Crash(whole[:n]), api.OK)
		kept(t, d, want...)
		d = loaded(t, 12, upTo(12)...)
		do(t, "Arm", d.Arm(2, whole[:n]), api.OK)
		do(t, "Write", d.Write(0, fill(2)), api.OK)
		if !bytes.Equal(whole, passed) {
			t.Errorf("%d bytes: changed what was passed", n)
		}
		for i := range whole {
			whole[i] = 255
		}
		do(t, "Flush", d.Flush(), api.ErrDown)
		kept(t, d, want...)
		if !bytes.Equal(whole, bytes.Repeat([]byte{255}, n+300)) {
			t.Errorf("%d bytes: a later crash changed what was passed", n)
		}
	}
}

// P0.4 (Read, Flushed): what is returned is the caller's own, with what lies beyond its length.
func TestBytesAreNew(t *testing.T) {
	d := loaded(t, 4, 1)
	for i, now := range []byte{1, 2, 1, 1} {
		first, _ := d.Read(i)
		second, _ := d.Read(i)
		for _, b := range [][]byte{first, d.Flushed(i), d.Flushed(i)} {
			spoil(b)
		}
		if !bytes.Equal(second, fill(now)) {
			t.Errorf("sector %d: two answers share memory", i)
		}
		for n := range 4 {
			has(t, d, n, fill([]byte{1, 2, 1, 1}[n]), fill(1))
		}
	}
	b, _ := d.Read(1)
	f := d.Flushed(1)
	do(t, "Flush", d.Flush(), api.OK)
	do(t, "Write", d.Write(1, fill(5)), api.OK)
	do(t, "Flush", d.Flush(), api.OK)
	if !bytes.Equal(b, fill(2)) || !bytes.Equal(f, fill(1)) {
		t.Error("a later Write or Flush changes what was returned")
	}
}

// P0.4 (Dirty): what is returned is the caller's own, with what lies beyond its length.
func TestDirtyIsNew(t *testing.T) {
	d := loaded(t, 40, 30, 4, 9, 1, 22)
	l, other := d.Dirty(), d.Dirty()
	l = l[:cap(l)]
	for i := range l {
		l[i] = 77
	}
	if !slices.Equal(other, []int{1, 4, 9, 22, 30}) {
		t.Errorf("two answers share memory: %v", other)
	}
	dirty(t, d, 1, 4, 9, 22, 30)
	do(t, "Write", d.Write(0, fill(2)), api.OK)
	do(t, "Flush", d.Flush(), api.OK)
	if !slices.Equal(other, []int{1, 4, 9, 22, 30}) {
		t.Errorf("a later call changes what was returned: %v", other)
	}
}

// spoil writes over a slice and what lies beyond its length.
func spoil(b []byte) {
	b = b[:cap(b)]
	for i := range b {
		b[i] = 99
	}
}

// P0.4: nil and empty slices are equivalent.
func TestNilIsEmpty(t *testing.T) {
	for _, stay := range [][]byte{nil, {}} {
		d := loaded(t, 3, 0, 1, 2)
		do(t, "Write", d.Write(0, stay), api.ErrArg)
		do(t, "Crash", d.Crash(stay), api.OK)
		kept(t, d)
		d = loaded(t, 3, 0, 1, 2)
		do(t, "Arm", d.Arm(1, stay), api.OK)
		do(t, "Flush", d.Flush(), api.ErrDown)
		kept(t, d)
	}
}
