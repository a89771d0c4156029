package disk_test

import (
	"bytes"
	"math/rand"
	"slices"
	"testing"

	"citadel/api"
	"citadel/disk"
)

// model is the chapter's definition of a disk, written down once more: two lists of sectors, none in the second one if nothing is cached.
type model struct {
	flushed, cached [][]byte
	up              bool
	left            int
	stay            []byte
}

func newModel(sectors int) *model {
	m := &model{up: true, cached: make([][]byte, sectors)}
	for range sectors {
		m.flushed = append(m.flushed, make([]byte, 64))
	}
	return m
}

func (m *model) crash(stay []byte) {
	n := 0
	for i, b := range m.cached {
		if b == nil {
			continue
		}
		if n/8 < len(stay) && stay[n/8]&(1<<(n%8)) != 0 {
			m.flushed[i] = b
		}
		n++
	}
	m.cached = make([][]byte, len(m.flushed))
	m.up, m.left = false, 0
}

// counts tells whether the disk survives an operation.
func (m *model) counts() api.Errno {
	if m.left > 0 {
		m.left--
		if m.left == 0 {
			m.crash(m.stay)
			return api.ErrDown
		}
	}
	return api.OK
}

func (m *model) write(i int, b []byte) api.Errno {
	switch {
	case !m.up:
		return api.ErrDown
	case i < 0 || i >= len(m.flushed):
		return api.ErrSector
	case len(b) != 64:
		return api.ErrArg
	}
	e := m.counts()
	if e == api.OK {
		m.cached[i] = bytes.Clone(b)
	}
	return e
}

func (m *model) flush() api.Errno {
	if !m.up {
		return api.ErrDown
	}
	e := m.counts()
	if e == api.OK {
		for i, b := range m.cached {
			if b != nil {
				m.flushed[i], m.cached[i] = b, nil
			}
		}
	}
	return e
}

// same holds d to answer what the model does.
func (m *model) same(t *testing.T, d *disk.Disk) {
	t.Helper()
	var cached []int
	for i, b := range m.cached {
		want := m.flushed[i]
		if b != nil {
			cached = append(cached, i)
			want = b
		}
		got, e := d.Read(i)
		if m.up && (e != api.OK || !bytes.Equal(got, want)) || !m.up && (e != api.ErrDown || got != nil) {
			t.Fatalf("Read(%d) = %v, %d, want %v", i, got, e, want)
		}
		if !bytes.Equal(d.Flushed(i), m.flushed[i]) {
			t.Fatalf("Flushed(%d) = %v, want %v", i, d.Flushed(i), m.flushed[i])
		}
	}
	if !slices.Equal(d.Dirty(), cached) || d.Up() != m.up || d.Len() != len(m.flushed) {
		t.Fatalf("Dirty = %v, Up = %v, Len = %d, want %v, %v, %d", d.Dirty(), d.Up(), d.Len(), cached, m.up, len(m.flushed))
	}
}

// randomBytes returns up to most bytes, many of which are 0 or 255.
func randomBytes(from *rand.Rand, most int) []byte {
	b := make([]byte, from.Intn(most+1))
	for i := range b {
		b[i] = []byte{0, 255, byte(from.Uint32())}[from.Intn(3)]
	}
	return b
}

// step does the same to a disk and to its model.
func step(t *testing.T, from *rand.Rand, d *disk.Disk, m *model) {
	t.Helper()
	n := len(m.flushed)
	switch from.Intn(12) {
	case 0, 1, 2, 3, 4, 5:
		i, b := from.Intn(n), fill(byte(from.Uint32()))
		if from.Intn(8) == 0 {
			i = from.Intn(3*n) - n
		}
		if from.Intn(8) == 0 {
			b = make([]byte, 62+from.Intn(5))
		}
		do(t, "Write", d.Write(i, b), m.write(i, b))
	case 6, 7:
		do(t, "Flush", d.Flush(), m.flush())
	case 8:
		stay := randomBytes(from, 1+n/4)
		want := api.ErrDown
		if m.up {
			want = api.OK
			m.crash(stay)
		}
		do(t, "Crash", d.Crash(stay), want)
	case 9:
		at, stay := from.Intn(9)-1, randomBytes(from, 1+n/4)
		want := api.ErrDown
		if m.up && at < 1 {
			want = api.ErrArg
		} else if m.up {
			want, m.left, m.stay = api.OK, at, stay
		}
		do(t, "Arm", d.Arm(at, stay), want)
	default:
		want := api.OK
		if m.up {
			want = api.ErrArg
		}
		m.up = true
		do(t, "Start", d.Start(), want)
	}
}

// P6.1 to P6.4: whatever is called, in whatever order.
func TestLikeTheModel(t *testing.T) {
	from := rand.New(rand.NewSource(6))
	for _, sectors := range []int{1, 2, 3, 8, 9, 30} {
		for range 60 {
			d, m := made(t, sectors), newModel(sectors)
			for range 150 {
				step(t, from, d, m)
				m.same(t, d)
			}
		}
	}
}

// P6.5 (sectors are atomic): for all subsets of a disk's sectors that are in the cache, and all that survive.
func TestAtomic(t *testing.T) {
	const sectors = 6
	for cached := range 1 << sectors {
		var l []int
		for i := range sectors {
			if cached>>i&1 == 1 {
				l = append(l, i)
			}
		}
		for stay := range 1 << len(l) {
			d := made(t, sectors)
			for i := range sectors {
				do(t, "Write", d.Write(i, mixed(byte(i))), api.OK)
			}
			do(t, "Flush", d.Flush(), api.OK)
			for _, i := range l {
				do(t, "Write", d.Write(i, mixed(byte(100+i))), api.OK)
			}
			do(t, "Crash", d.Crash([]byte{byte(stay)}), api.OK)
			do(t, "Start", d.Start(), api.OK)
			for i := range sectors {
				want := mixed(byte(i))
				if n := slices.Index(l, i); n >= 0 && stay>>n&1 == 1 {
					want = mixed(byte(100 + i))
				}
				has(t, d, i, want, want)
			}
		}
	}
}

// P6.6 (durability): crashes leave what was flushed, till the sector is written again.
func TestDurable(t *testing.T) {
	from := rand.New(rand.NewSource(66))
	for range 200 {
		d := made(t, 10)
		do(t, "Write", d.Write(3, mixed(5)), api.OK)
		do(t, "Write", d.Write(9, mixed(6)), api.OK)
		do(t, "Flush", d.Flush(), api.OK)
		for range 8 {
			for range from.Intn(4) {
				do(t, "Write", d.Write([]int{0, 1, 2, 4, 5, 6, 7, 8}[from.Intn(8)], mixed(byte(from.Uint32()))), api.OK)
			}
			if from.Intn(3) == 0 {
				do(t, "Flush", d.Flush(), api.OK)
			}
			if from.Intn(2) == 0 {
				do(t, "Arm", d.Arm(1, randomBytes(from, 3)), api.OK)
				do(t, "Write", d.Write(3, fill(1)), api.ErrDown) // a Write in which the disk crashes is none
			} else {
				do(t, "Crash", d.Crash(randomBytes(from, 3)), api.OK)
			}
			for _, i := range []int{3, 9} {
				if !bytes.Equal(d.Flushed(i), mixed(byte([]int{3: 5, 9: 6}[i]))) {
					t.Fatalf("Flushed(%d) = %v", i, d.Flushed(i))
				}
			}
			do(t, "Start", d.Start(), api.OK)
			has(t, d, 3, mixed(5), mixed(5))
			has(t, d, 9, mixed(6), mixed(6))
		}
	}
}

// P6.7 (arming): an armed disk, and one on which Crash is called at that operation, answer the same from then on.
func TestArmedLikeCrashed(t *testing.T) {
	from := rand.New(rand.NewSource(67))
	for range 400 {
		armed, crashed := made(t, 9), made(t, 9)
		at, stay := 1+from.Intn(12), randomBytes(from, 2)
		before := from.Intn(6)
		for n := range before + at {
			if n == before {
				do(t, "Arm", armed.Arm(at, stay), api.OK)
			}
			i, b, flush := from.Intn(9), mixed(byte(from.Uint32())), from.Intn(5) == 0
			want := api.OK
			if n == before+at-1 {
				want = api.ErrDown
				do(t, "Crash", crashed.Crash(stay), api.OK)
			}
			for _, d := range []*disk.Disk{armed, crashed} {
				if flush {
					do(t, "Flush", d.Flush(), want)
				} else {
					do(t, "Write", d.Write(i, b), want)
				}
			}
			alike(t, armed, crashed)
		}
		for _, d := range []*disk.Disk{armed, crashed} {
			do(t, "Start", d.Start(), api.OK)
			for range 15 {
				do(t, "Flush", d.Flush(), api.OK)
			}
		}
		alike(t, armed, crashed)
	}
}

func alike(t *testing.T, a, b *disk.Disk) {
	t.Helper()
	if a.Up() != b.Up() || !slices.Equal(a.Dirty(), b.Dirty()) {
		t.Fatalf("Up = %v, %v; Dirty = %v, %v", a.Up(), b.Up(), a.Dirty(), b.Dirty())
	}
	for i := range a.Len() {
		x, e := a.Read(i)
		y, f := b.Read(i)
		if e != f || !bytes.Equal(x, y) || !bytes.Equal(a.Flushed(i), b.Flushed(i)) {
			t.Fatalf("sector %d: %v, %d; %v, %d", i, x, e, y, f)
		}
	}
}
