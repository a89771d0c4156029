package commit_test

import (
	"bytes"
	"hash/crc32"
	"math"
	"slices"
	"testing"

	"citadel/api"
	"citadel/commit"
	"citadel/disk"
)

// The chapter's definitions, written out byte by byte.

func valid(r api.Record) bool {
	return 1 <= r.Seqn && (r.Slot == 0 || r.Slot == 1) && 1 <= r.Len && r.Len <= 4096
}

// number returns the 8 bytes of a number.
func number(n int) []byte {
	var b []byte
	for shift := 56; shift >= 0; shift -= 8 {
		b = append(b, byte(uint64(n)>>shift))
	}
	return b
}

// payload returns the bytes of a record, valid or not.
func payload(r api.Record) []byte {
	b := append(number(r.Seqn), byte(r.Slot))
	b = append(b, number(r.Len)...)
	if r.Trial {
		b = append(b, 1)
	} else {
		b = append(b, 0)
	}
	return append(b, r.Hash[:]...)
}

// framed returns the framed sector of that kind with the payload b.
func framed(kind byte, b []byte) []byte {
	s := make([]byte, 60)
	s[0], s[1] = kind, byte(len(b))
	copy(s[2:], b)
	return checked(s)
}

// checked returns 60 bytes and their checksum.
func checked(s []byte) []byte {
	c := crc32.ChecksumIEEE(s[:60])
	return append(bytes.Clone(s[:60]), byte(c>>24), byte(c>>16), byte(c>>8), byte(c))
}

// sectorOf returns the sector of a record, valid or not.
func sectorOf(r api.Record) []byte { return framed(1, payload(r)) }

// standing returns the valid record whose sector s is. It takes the record's fields from where they lie, and holds its sector against s.
func standing(s []byte) (api.Record, bool) {
	r := api.Record{Slot: int(s[10]), Trial: s[19] == 1, Hash: api.Tag(s[20:52])}
	for i := range 8 {
		r.Seqn = r.Seqn<<8 | int(s[2+i])
		r.Len = r.Len<<8 | int(s[11+i])
	}
	return r, valid(r) && bytes.Equal(s, sectorOf(r))
}

// put does what the chapter says of Put.
func put(d *disk.Disk, r api.Record) api.Errno {
	if d == nil || d.Len() == 0 {
		return api.ErrNil
	}
	if !valid(r) {
		return api.ErrArg
	}
	if e := d.Write([]int{0, 1}[r.Seqn&1], sectorOf(r)); e != api.OK {
		return e
	}
	return d.Flush()
}

// get does what the chapter says of Get.
func get(d *disk.Disk) (last, ahead api.Record, e api.Errno) {
	none := api.Record{}
	if d == nil || d.Len() == 0 {
		return none, none, api.ErrNil
	}
	var found []api.Record
	for i := range 2 {
		s, e := d.Read(i)
		if e != api.OK {
			return none, none, e
		}
		if r, ok := standing(s); ok && r.Seqn&1 == i {
			found = append(found, r)
		}
	}
	slices.SortFunc(found, func(a, b api.Record) int { return b.Seqn - a.Seqn }) // both above 0: no wrap
	switch {
	case len(found) == 0:
		return none, none, api.ErrCommit
	case len(found) == 2 && found[1].Seqn+1 == found[0].Seqn:
		return found[0], found[1], api.OK
	}
	return found[0], none, api.OK
}

// rec returns a valid record whose other fields differ from those of its neighbours.
func rec(seqn int) api.Record {
	r := api.Record{Seqn: seqn, Slot: seqn >> 1 & 1, Len: 1 + seqn&0xfff, Trial: seqn%3 == 0}
	for i := range r.Hash {
		r.Hash[i] = byte(seqn + 7*i)
	}
	return r
}

// full returns a Tag of that byte alone.
func full(x byte) api.Tag { return api.Tag(bytes.Repeat([]byte{x}, 32)) }

// good returns records at the edges of what is valid.
func good() []api.Record {
	var l []api.Record
	for _, seqn := range []int{1, 2, 3, 255, 256, 1 << 32, math.MaxInt64 - 1, math.MaxInt64} {
		for slot := range 2 {
			for _, n := range []int{1, 2, 255, 256, 4095, 4096} {
				for _, hash := range []api.Tag{{}, full(255), rec(seqn).Hash} {
					l = append(l, api.Record{Seqn: seqn, Slot: slot, Len: n, Hash: hash}, api.Record{Seqn: seqn, Slot: slot, Len: n, Trial: true, Hash: hash})
				}
			}
		}
	}
	return l
}

func extremes() []int {
	return []int{math.MinInt64, math.MinInt64 + 1, math.MinInt32, -4096, -256, -2, -1, 0, 1, 2, 3, 255, 256, 257, 4095, 4096, 4097, 1 << 32, 1<<32 + 1, math.MaxInt64 - 1, math.MaxInt64}
}

// bad returns records that are not valid: with one field beyond its edge, or several.
func bad() []api.Record {
	var l []api.Record
	for _, seqn := range extremes() {
		for _, slot := range extremes() {
			for _, n := range extremes() {
				if seqn < 1 || slot < 0 || slot > 1 || n < 1 || n > 4096 {
					l = append(l, api.Record{Seqn: seqn, Slot: slot, Len: n, Trial: n < seqn, Hash: full(byte(slot))})
				}
			}
		}
	}
	return l
}

// mixed returns n bytes of which neighbours differ, others for another start.
func mixed(n, start int) []byte {
	b := make([]byte, n)
	for i := range b {
		b[i] = byte(start + 7*i + i/64*5)
	}
	return b
}

func made(t *testing.T, sectors int) *disk.Disk {
	t.Helper()
	d, e := disk.New(sectors)
	if e != api.OK {
		t.Fatalf("New(%d) returns error %d", sectors, e)
	}
	return d
}

// used returns a disk whose sectors have contents of their own, the first two among them; those whose number is a multiple of 3 have others in the cache.
func used(t *testing.T, sectors int) *disk.Disk {
	t.Helper()
	d := made(t, sectors)
	for i := range sectors {
		do(t, "Write", d.Write(i, mixed(64, 3*i+1)), api.OK)
	}
	do(t, "Flush", d.Flush(), api.OK)
	for i := 0; i < sectors; i += 3 {
		do(t, "Write", d.Write(i, mixed(64, 5*i+2)), api.OK)
	}
	return d
}

// holding returns a disk that has those contents flushed in its first two sectors; nil for zero bytes.
func holding(t *testing.T, zero, one []byte) *disk.Disk {
	t.Helper()
	d := made(t, 5)
	for i, s := range [][]byte{zero, one} {
		if s != nil {
			do(t, "Write", d.Write(i, s), api.OK)
		}
	}
	do(t, "Flush", d.Flush(), api.OK)
	return d
}

// do holds a call's error to be the one that is asked for.
func do(t *testing.T, what string, got, want api.Errno) {
	t.Helper()
	if got != want {
		t.Errorf("%s: error %d, want %d", what, got, want)
	}
}

// gets holds Get's answer to be what is asked for.
func gets(t *testing.T, what string, d *disk.Disk, last, ahead api.Record, want api.Errno) {
	t.Helper()
	l, a, e := commit.Get(d)
	if l != last || a != ahead || e != want {
		t.Errorf("%s: Get returns %v, %v, error %d, want %v, %v, error %d", what, l, a, e, last, ahead, want)
	}
}

// defined holds Get's answer to be what the definition says.
func defined(t *testing.T, what string, d *disk.Disk) {
	t.Helper()
	last, ahead, want := get(d)
	gets(t, what, d, last, ahead, want)
}

// dirty holds the cache to have those sectors.
func dirty(t *testing.T, what string, d *disk.Disk, want ...int) {
	t.Helper()
	if l := d.Dirty(); !slices.Equal(l, want) {
		t.Errorf("%s: the cache has the sectors %v, want %v", what, l, want)
	}
}

// alike holds two disks to be alike in all that a call tells without changing them.
func alike(t *testing.T, d, twin *disk.Disk) {
	t.Helper()
	if d.Up() != twin.Up() || d.Len() != twin.Len() || !slices.Equal(d.Dirty(), twin.Dirty()) {
		t.Fatalf("up %v, %d sectors, %v cached; want %v, %d, %v", d.Up(), d.Len(), d.Dirty(), twin.Up(), twin.Len(), twin.Dirty())
	}
	for i := range twin.Len() {
		if b, want := d.Flushed(i), twin.Flushed(i); !bytes.Equal(b, want) {
			t.Fatalf("sector %d has %x flushed, want %x", i, b, want)
		}
		b, e := d.Read(i)
		if want, f := twin.Read(i); e != f || !bytes.Equal(b, want) {
			t.Fatalf("sector %d has %x, error %d, want %x, error %d", i, b, e, want, f)
		}
	}
}

// twins is a disk that the package works on, and one that the definitions work on.
type twins struct {
	t       *testing.T
	d, twin *disk.Disk
}

func pair(t *testing.T, sectors int) twins {
	return twins{t, used(t, sectors), used(t, sectors)}
}

func (x twins) put(r api.Record) api.Errno {
	x.t.Helper()
	want := put(x.twin, r)
	if e := commit.Put(x.d, r); e != want {
		x.t.Fatalf("Put of %v: error %d, want %d", r, e, want)
	}
	alike(x.t, x.d, x.twin)
	return want
}

func (x twins) get() api.Errno {
	x.t.Helper()
	last, ahead, want := get(x.twin)
	gets(x.t, "drawn", x.d, last, ahead, want)
	alike(x.t, x.d, x.twin)
	return want
}

// both does one thing to both disks.
func (x twins) both(act func(d *disk.Disk) api.Errno) api.Errno {
	x.t.Helper()
	want := act(x.twin)
	do(x.t, "both", act(x.d), want)
	alike(x.t, x.d, x.twin)
	return want
}
