package attempt_test

import (
	"bytes"
	"fmt"
	"math"
	"math/rand"
	"testing"

	"citadel/api"
	"citadel/attempt"
	"citadel/disk"
)

// behind returns a disk with n attempts of seqn, or zero bytes for no attempts; all other sectors are cached.
func behind(t *testing.T, seqn, n int) *disk.Disk {
	t.Helper()
	d := made(t, 9)
	if n > 0 {
		do(t, "Put", attempt.Put(d, seqn, n), api.OK)
	}
	for i := range 9 {
		if i != place {
			do(t, "Write", d.Write(i, mixed(64, i+1)), api.OK)
		}
	}
	return d
}

// crashes counts one more of seqn on a disk with n attempts of another Seqn or of this one, with each crash that there may be.
func crashes(t *testing.T, seqn, of, n int) {
	t.Helper()
	before, after := 0, 1
	if seqn == of {
		before, after = n, more(n)
	}
	for at := 1; at <= 2; at++ {
		for stay := range 16 {
			what := fmt.Sprint(seqn, of, n, " operation ", at, ", stays ", stay)
			d := behind(t, of, n)
			do(t, what, d.Arm(at, []byte{byte(stay)}), api.OK)
			nexts(t, what, d, seqn, 0, api.ErrDown)
			gets(t, what, d, seqn, 0, api.ErrDown)
			do(t, what, d.Start(), api.OK)
			// At the flush sector 2 is the third one in the cache; at the write it is not there.
			if at == 2 && stay&4 != 0 {
				only(t, what, d, seqn, after)
			} else {
				gets(t, what, d, seqn, before, api.OK)
				only(t, what, d, of, n)
			}
			kept(t, what, d, at, stay)
		}
	}
}

// kept holds the other sectors to have survived as their place in the cache says.
func kept(t *testing.T, what string, d *disk.Disk, at, stay int) {
	t.Helper()
	bit := 0
	for i := range 9 {
		if i == place {
			bit += at - 1 // cached only at the flush
			continue
		}
		want := make([]byte, 64)
		if stay>>bit&1 != 0 {
			want = mixed(64, i+1)
		}
		if !bytes.Equal(d.Flushed(i), want) {
			t.Errorf("%s: sector %d has %x", what, i, d.Flushed(i))
		}
		bit++
	}
}

// P17.3: after every crash during a Next the number is the one before or one more; at the flush it hangs on what survives.
func TestCrashes(t *testing.T) {
	for _, n := range []int{0, 1, 2, 3, 255, 256, 1 << 32, cap40 - 2, cap40 - 1, cap40} {
		for _, seqn := range []int{1, 2, 5, 1 << 40, math.MaxInt64} {
			crashes(t, seqn, seqn, n)
		}
		if n == 0 {
			continue
		}
		for _, c := range [][2]int{{1, 2}, {2, 1}, {5, 4}, {5, 6}, {5, 77}, {1 << 40, 1}, {math.MaxInt64, math.MaxInt64 - 1}, {1, math.MaxInt64}} {
			crashes(t, c[0], c[1], n)
		}
	}
}

// P17.3: what Next returned OK for survives every crash behind it.
func TestNextSurvives(t *testing.T) {
	d := made(t, 5)
	for n := 1; n <= 60; n++ {
		nexts(t, "survives", d, 3, n, api.OK)
		do(t, "Write", d.Write(place, sectorOf(3, 1000)), api.OK)
		do(t, "Crash", d.Crash(nil), api.OK)
		do(t, "Start", d.Start(), api.OK)
		only(t, "survives", d, 3, n)
	}
}

// P17.3, P17.4: a long run of Nexts for one Seqn and then for another, with a crash at one operation or none.
func TestRun(t *testing.T) {
	r := rand.New(rand.NewSource(17))
	d := made(t, 4)
	seqn, n := 1, 0
	for range 4000 {
		if r.Intn(40) == 0 {
			gets(t, "the one before", d, seqn, n, api.OK)
			gets(t, "another", d, seqn+1, 0, api.OK)
			seqn, n = seqn+1, 0
		}
		at, stay := 1+r.Intn(4), byte(r.Intn(2))
		do(t, "Arm", d.Arm(at, []byte{stay}), api.OK)
		got, e := attempt.Next(d, seqn)
		if at > 2 {
			do(t, "Crash", d.Crash(nil), api.OK)
		}
		if e == api.OK && (at <= 2 || got != n+1) || e != api.OK && (at > 2 || e != api.ErrDown || got != 0) {
			t.Fatalf("Next returns %d, error %d, behind %d, crash at %d", got, e, n, at)
		}
		do(t, "Start", d.Start(), api.OK)
		if at > 2 || at == 2 && stay == 1 {
			n++
		}
		gets(t, "run", d, seqn, n, api.OK)
		gets(t, "run", d, seqn+1, 0, api.OK)
	}
	if seqn < 50 {
		t.Errorf("the last Seqn is %d", seqn)
	}
}

// step does one drawn thing to both disks, and holds them to be alike behind it.
func step(x twins, r *rand.Rand) {
	stay := mixed(r.Intn(3), r.Intn(256))
	seqn, n := r.Intn(6)-1, r.Intn(8)-1
	if r.Intn(6) == 0 {
		n = cap40 - 2 + r.Intn(5)
	}
	switch r.Intn(14) {
	case 0:
		x.both((*disk.Disk).Flush)
	case 1:
		at := r.Intn(6)
		x.both(func(d *disk.Disk) api.Errno { return d.Arm(at, stay) })
	case 2:
		x.both(func(d *disk.Disk) api.Errno { return d.Crash(stay) })
	case 3, 4, 5:
		x.both((*disk.Disk).Start)
	case 6: // a record in any sector, a byte of it otherwise or none
		s := sectorOf(seqn, n)
		s[r.Intn(64)] ^= byte(r.Intn(2) * r.Intn(256))
		i := r.Intn(x.twin.Len())
		x.both(func(d *disk.Disk) api.Errno { return d.Write(i, s) })
	case 7:
		x.put(int(r.Uint64()), int(r.Uint64()))
	case 8:
		x.next(int(r.Uint64()))
	case 9, 10:
		x.put(seqn, n)
	default:
		x.next(seqn)
	}
	for seqn := -1; seqn <= 5; seqn++ {
		x.get(seqn)
	}
}

// P17.1, P17.2, P17.3, P17.4: drawn calls on disks of any size, with flushes and crashes in between, do and return what the definitions say.
func TestDrawnCalls(t *testing.T) {
	r := rand.New(rand.NewSource(1717))
	for _, sectors := range []int{1, 2, 3, 4, 10} {
		for range 60 {
			x := pair(t, sectors)
			for range 60 {
				step(x, r)
			}
		}
	}
}
