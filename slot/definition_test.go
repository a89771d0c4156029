package slot_test

import (
	"bytes"
	"crypto/sha256"
	"slices"
	"testing"

	"citadel/api"
	"citadel/disk"
	"citadel/slot"
)

// The chapter's definitions, written out byte by byte.

// refused returns the first error of the chapter's list that a call for n bytes from at on leads to before a sector is read.
func refused(d *disk.Disk, which, at, n int) api.Errno {
	for _, c := range []struct {
		holds bool
		e     api.Errno
	}{
		{d == nil || d.Len() == 0, api.ErrNil},
		{which != 0 && which != 1, api.ErrArg},
		{at < 0, api.ErrArg},
		{n < 0, api.ErrArg},
		{uint64(at)+uint64(n) > 4096, api.ErrFull},
		{!d.Up(), api.ErrDown},
	} {
		if c.holds {
			return c.e
		}
	}
	return api.OK
}

// sectorOf returns the sector of the byte at that position of a slot, and its index there.
func sectorOf(which, position int) (sector, index int) {
	return []int{3, 67}[which] + position/64, position % 64
}

// wrote does what the chapter says of Write.
func wrote(d *disk.Disk, which, at int, b []byte) api.Errno {
	if e := refused(d, which, at, len(b)); e != api.OK {
		return e
	}
	for i := 0; i < len(b); {
		sector, index := sectorOf(which, at+i)
		held, e := d.Read(sector)
		if e != api.OK {
			return e
		}
		for ; index < 64 && i < len(b); index, i = index+1, i+1 {
			held[index] = b[i]
		}
		if e := d.Write(sector, held); e != api.OK {
			return e
		}
	}
	return api.OK
}

// readOut does what the chapter says of Read.
func readOut(d *disk.Disk, which, n int) ([]byte, api.Errno) {
	if e := refused(d, which, 0, n); e != api.OK {
		return nil, e
	}
	var b []byte
	for i := range n {
		sector, index := sectorOf(which, i)
		held, e := d.Read(sector)
		if e != api.OK {
			return nil, e
		}
		b = append(b, held[index])
	}
	return b, api.OK
}

// got does what the chapter says of Get.
func got(d *disk.Disk, which, n int, hash api.Tag) ([]byte, api.Errno) {
	b, e := readOut(d, which, n)
	if e == api.OK && digest(b) != hash {
		return nil, api.ErrSlot
	}
	return b, e
}

func digest(b []byte) api.Tag { return sha256.Sum256(b) }

// mixed returns n bytes of which neighbours differ, others for another start.
func mixed(n, start int) []byte {
	b := make([]byte, n)
	for i := range b {
		b[i] = byte(start + 7*i + i/64*5)
	}
	return b
}

func made(t *testing.T, sectors int) *disk.Disk {
	t.Helper()
	d, e := disk.New(sectors)
	if e != api.OK {
		t.Fatalf("New(%d) returns error %d", sectors, e)
	}
	return d
}

// used returns a disk each of whose sectors has flushed contents of its own; those whose number is a multiple of 5 have others in the cache.
func used(t *testing.T, sectors int) *disk.Disk {
	t.Helper()
	d := made(t, sectors)
	for i := range sectors {
		do(t, "Write", d.Write(i, mixed(64, 3*i+1)), api.OK)
	}
	do(t, "Flush", d.Flush(), api.OK)
	for i := 0; i < sectors; i += 5 {
		do(t, "Write", d.Write(i, mixed(64, 5*i+2)), api.OK)
	}
	return d
}

// do holds a call's error to be the one that is asked for.
func do(t *testing.T, what string, got, want api.Errno) {
	t.Helper()
	if got != want {
		t.Errorf("%s: error %d, want %d", what, got, want)
	}
}

// answered holds bytes and an error to be those that are asked for.
func answered(t *testing.T, what string, b []byte, e api.Errno, want []byte, f api.Errno) {
	t.Helper()
	if e != f || !bytes.Equal(b, want) {
		t.Errorf("%s: %.300x (%d bytes), error %d, want %.300x (%d bytes), error %d", what, b, len(b), e, want, len(want), f)
	}
	if f != api.OK && b != nil {
		t.Errorf("%s: bytes beside error %d", what, e)
	}
}

func reads(t *testing.T, d *disk.Disk, which, n int, want []byte, f api.Errno) {
	t.Helper()
	b, e := slot.Read(d, which, n)
	answered(t, "Read", b, e, want, f)
}

func gets(t *testing.T, d *disk.Disk, which, n int, hash api.Tag, want []byte, f api.Errno) {
	t.Helper()
	b, e := slot.Get(d, which, n, hash)
	answered(t, "Get", b, e, want, f)
}

// dirty holds the cache to have those sectors.
func dirty(t *testing.T, d *disk.Disk, want ...int) {
	t.Helper()
	if l := d.Dirty(); !slices.Equal(l, want) {
		t.Errorf("Dirty = %v, want %v", l, want)
	}
}

// upTo returns the numbers from first up to last.
func upTo(first, last int) []int {
	var l []int
	for i := first; i <= last; i++ {
		l = append(l, i)
	}
	return l
}

// alike holds two disks to be alike in all that a call tells without changing them.
func alike(t *testing.T, d, twin *disk.Disk) {
	t.Helper()
	if d.Up() != twin.Up() || d.Len() != twin.Len() || !slices.Equal(d.Dirty(), twin.Dirty()) {
		t.Fatalf("up %v, %d sectors, %v cached; want %v, %d, %v", d.Up(), d.Len(), d.Dirty(), twin.Up(), twin.Len(), twin.Dirty())
	}
	for i := range twin.Len() {
		if b, want := d.Flushed(i), twin.Flushed(i); !bytes.Equal(b, want) {
			t.Fatalf("sector %d has %x flushed, want %x", i, b, want)
		}
		b, e := d.Read(i)
		if want, f := twin.Read(i); e != f || !bytes.Equal(b, want) {
			t.Fatalf("sector %d has %x, error %d, want %x, error %d", i, b, e, want, f)
		}
	}
}

// twins is a disk that the package works on, and one that the definitions work on.
type twins struct {
	t       *testing.T
	d, twin *disk.Disk
}

func pair(t *testing.T, sectors int) twins {
	return twins{t, used(t, sectors), used(t, sectors)}
}

func (x twins) write(which, at int, b []byte) api.Errno {
	x.t.Helper()
	want := wrote(x.twin, which, at, b)
	if e := slot.Write(x.d, which, at, b); e != want {
		x.t.Fatalf("Write(%d, %d, %d bytes): error %d, want %d", which, at, len(b), e, want)
	}
	alike(x.t, x.d, x.twin)
	return want
}

func (x twins) read(which, n int) api.Errno {
	x.t.Helper()
	want, f := readOut(x.twin, which, n)
	reads(x.t, x.d, which, n, want, f)
	alike(x.t, x.d, x.twin)
	return f
}

func (x twins) get(which, n int, hash api.Tag) api.Errno {
	x.t.Helper()
	want, f := got(x.twin, which, n, hash)
	gets(x.t, x.d, which, n, hash, want, f)
	alike(x.t, x.d, x.twin)
	return f
}

// both does one thing to both disks.
func (x twins) both(act func(d *disk.Disk) api.Errno) {
	x.t.Helper()
	do(x.t, "both", act(x.d), act(x.twin))
	alike(x.t, x.d, x.twin)
}
