package attempt_test

import (
	"bytes"
	"hash/crc32"
	"math"
	"slices"
	"testing"

	"citadel/api"
	"citadel/attempt"
	"citadel/disk"
)

// The chapter's definitions, written out byte by byte.

const (
	place = 2       // the sector of the attempt record
	cap40 = 1 << 40 // where Next ends
)

// number returns the 8 bytes of a number.
func number(n int) []byte {
	var b []byte
	for shift := 56; shift >= 0; shift -= 8 {
		b = append(b, byte(uint64(n)>>shift))
	}
	return b
}

// payload returns the bytes of an attempt record, of numbers below 1 too.
func payload(seqn, n int) []byte { return append(number(seqn), number(n)...) }

// framed returns the framed sector of that kind with the payload b.
func framed(kind byte, b []byte) []byte {
	s := make([]byte, 60)
	s[0], s[1] = kind, byte(len(b))
	copy(s[2:], b)
	return checked(s)
}

// checked returns 60 bytes and their checksum.
func checked(s []byte) []byte {
	c := crc32.ChecksumIEEE(s[:60])
	return append(bytes.Clone(s[:60]), byte(c>>24), byte(c>>16), byte(c>>8), byte(c))
}

// sectorOf returns the sector of an attempt record, of numbers below 1 too.
func sectorOf(seqn, n int) []byte { return framed(2, payload(seqn, n)) }

// standing returns the attempt record whose sector s is. It takes the numbers from where they lie, and holds their sector against s.
func standing(s []byte) (seqn, n int, ok bool) {
	for i := range 8 {
		seqn = seqn<<8 | int(s[2+i])
		n = n<<8 | int(s[10+i])
	}
	return seqn, n, seqn > 0 && n > 0 && bytes.Equal(s, sectorOf(seqn, n))
}

// put does what the chapter says of Put.
func put(d *disk.Disk, seqn, n int) api.Errno {
	switch {
	case d == nil || d.Len() == 0:
		return api.ErrNil
	case seqn < 1 || n < 1:
		return api.ErrArg
	}
	if e := d.Write(place, sectorOf(seqn, n)); e != api.OK {
		return e
	}
	return d.Flush()
}

// get does what the chapter says of Get.
func get(d *disk.Disk, seqn int) (int, api.Errno) {
	if d == nil || d.Len() == 0 {
		return 0, api.ErrNil
	}
	s, e := d.Read(place)
	if e != api.OK {
		return 0, e
	}
	if of, n, ok := standing(s); ok && of == seqn {
		return n, api.OK
	}
	return 0, api.OK
}

// more returns the number behind n.
func more(n int) int {
	if n >= cap40 {
		return cap40
	}
	return n + 1
}

// next does what the chapter says of Next.
func next(d *disk.Disk, seqn int) (int, api.Errno) {
	switch {
	case d == nil || d.Len() == 0:
		return 0, api.ErrNil
	case seqn < 1:
		return 0, api.ErrArg
	}
	n, e := get(d, seqn)
	if e != api.OK {
		return 0, e
	}
	if e := put(d, seqn, more(n)); e != api.OK {
		return 0, e
	}
	return more(n), api.OK
}

// good returns numbers that a record may state.
func good() []int {
	return []int{1, 2, 3, 255, 256, 257, 1 << 16, 1<<31 - 1, 1 << 31, 1 << 32, 1<<32 + 1, cap40 - 2, cap40 - 1, cap40, cap40 + 1, 1 << 41, 1 << 56, math.MaxInt64 - 1, math.MaxInt64}
}

// bad returns numbers that no record states.
func bad() []int {
	return []int{0, -1, -2, -3, -255, -256, -257, math.MinInt32, -1 << 32, 1 - 1<<32, -cap40, math.MinInt64 + 1, math.MinInt64}
}

// around returns a number's neighbours, and some far from it; none is the number itself.
func around(n int) []int {
	l := append(good(), bad()...)
	l = append(l, n-1, n+1, n-2, n+2, -n, ^n, n^math.MinInt64, n^1<<32, n^1<<8, n^1<<40)
	return slices.DeleteFunc(l, func(x int) bool { return x == n })
}

// mixed returns n bytes of which neighbours differ, others for another start.
func mixed(n, start int) []byte {
	b := make([]byte, n)
	for i := range b {
		b[i] = byte(start + 7*i + i/64*5)
	}
	return b
}

func made(t *testing.T, sectors int) *disk.Disk {
	t.Helper()
	d, e := disk.New(sectors)
	if e != api.OK {
		t.Fatalf("New(%d) returns error %d", sectors, e)
	}
	return d
}

// used returns a disk whose sectors have contents of their own, sector 2 among them; those whose number is a multiple of 3 have others in the cache.
func used(t *testing.T, sectors int) *disk.Disk {
	t.Helper()
	d := made(t, sectors)
	for i := range sectors {
		do(t, "Write", d.Write(i, mixed(64, 3*i+1)), api.OK)
	}
	do(t, "Flush", d.Flush(), api.OK)
	for i := 0; i < sectors; i += 3 {
		do(t, "Write", d.Write(i, mixed(64, 5*i+2)), api.OK)
	}
	return d
}

// holding returns a disk that has those contents flushed in sector 2.
func holding(t *testing.T, s []byte) *disk.Disk {
	t.Helper()
	d := made(t, 5)
	do(t, "Write", d.Write(place, s), api.OK)
	do(t, "Flush", d.Flush(), api.OK)
	return d
}

// do holds a call's error to be the one that is asked for.
func do(t *testing.T, what string, got, want api.Errno) {
	t.Helper()
	if got != want {
		t.Errorf("%s: error %d, want %d", what, got, want)
	}
}

// gets holds Get's answer to be what is asked for.
func gets(t *testing.T, what string, d *disk.Disk, seqn, want int, f api.Errno) {
	t.Helper()
	if n, e := attempt.Get(d, seqn); n != want || e != f {
		t.Errorf("%s: Get(%d) returns %d, error %d, want %d, error %d", what, seqn, n, e, want, f)
	}
}

// nexts holds Next's answer to be what is asked for.
func nexts(t *testing.T, what string, d *disk.Disk, seqn, want int, f api.Errno) {
	t.Helper()
	if n, e := attempt.Next(d, seqn); n != want || e != f {
		t.Errorf("%s: Next(%d) returns %d, error %d, want %d, error %d", what, seqn, n, e, want, f)
	}
}

// only holds the number of attempts of seqn to be n, and that of every other Seqn to be 0.
func only(t *testing.T, what string, d *disk.Disk, seqn, n int) {
	t.Helper()
	gets(t, what, d, seqn, n, api.OK)
	for _, other := range around(seqn) {
		gets(t, what, d, other, 0, api.OK)
	}
}

// dirty holds the cache to have those sectors.
func dirty(t *testing.T, what string, d *disk.Disk, want ...int) {
	t.Helper()
	if l := d.Dirty(); !slices.Equal(l, want) {
		t.Errorf("%s: the cache has the sectors %v, want %v", what, l, want)
	}
}

// alike holds two disks to be alike in all that a call tells without changing them.
func alike(t *testing.T, d, twin *disk.Disk) {
	t.Helper()
	if d.Up() != twin.Up() || d.Len() != twin.Len() || !slices.Equal(d.Dirty(), twin.Dirty()) {
		t.Fatalf("up %v, %d sectors, %v cached; want %v, %d, %v", d.Up(), d.Len(), d.Dirty(), twin.Up(), twin.Len(), twin.Dirty())
	}
	for i := range twin.Len() {
		if b, want := d.Flushed(i), twin.Flushed(i); !bytes.Equal(b, want) {
			t.Fatalf("sector %d has %x flushed, want %x", i, b, want)
		}
		b, e := d.Read(i)
		if want, f := twin.Read(i); e != f || !bytes.Equal(b, want) {
			t.Fatalf("sector %d has %x, error %d, want %x, error %d", i, b, e, want, f)
		}
	}
}

// twins is a disk that the package works on, and one that the definitions work on.
type twins struct {
	t       *testing.T
	d, twin *disk.Disk
}

func pair(t *testing.T, sectors int) twins {
	return twins{t, used(t, sectors), used(t, sectors)}
}

func (x twins) put(seqn, n int) api.Errno {
	x.t.Helper()
	want := put(x.twin, seqn, n)
	if e := attempt.Put(x.d, seqn, n); e != want {
		x.t.Fatalf("Put(%d, %d): error %d, want %d", seqn, n, e, want)
	}
	alike(x.t, x.d, x.twin)
	return want
}

func (x twins) get(seqn int) api.Errno {
	x.t.Helper()
	n, want := get(x.twin, seqn)
	gets(x.t, "twins", x.d, seqn, n, want)
	alike(x.t, x.d, x.twin)
	return want
}

func (x twins) next(seqn int) api.Errno {
	x.t.Helper()
	n, want := next(x.twin, seqn)
	nexts(x.t, "twins", x.d, seqn, n, want)
	alike(x.t, x.d, x.twin)
	return want
}

// both does one thing to both disks.
func (x twins) both(act func(d *disk.Disk) api.Errno) api.Errno {
	x.t.Helper()
	want := act(x.twin)
	do(x.t, "both", act(x.d), want)
	alike(x.t, x.d, x.twin)
	return want
}
