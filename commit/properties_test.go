package commit_test

import (
	"fmt"
	"math"
	"math/rand"
	"testing"

	"citadel/api"
	"citadel/commit"
	"citadel/disk"
)

// behind returns a disk that has the record last, and the one ahead of it if there is one; other sectors are cached.
func behind(t *testing.T, last, ahead api.Record) *disk.Disk {
	t.Helper()
	d := used(t, 9)
	for _, r := range []api.Record{ahead, last} {
		if r.Seqn > 0 {
			do(t, "Put", commit.Put(d, r), api.OK)
		}
	}
	for i := 2; i < 9; i++ {
		do(t, "Write", d.Write(i, mixed(64, i)), api.OK)
	}
	return d
}

// crashes puts the record next behind the others with each crash that there may be.
func crashes(t *testing.T, next, last, ahead api.Record) {
	t.Helper()
	for at := 1; at <= 2; at++ {
		for _, stay := range []byte{0, 1, 2, 3, 0xfc, 0xfd, 0xfe, 0xff} {
			d := behind(t, last, ahead)
			do(t, "Arm", d.Arm(at, []byte{stay}), api.OK)
			do(t, "Put", commit.Put(d, next), api.ErrDown)
			gets(t, "down", d, api.Record{}, api.Record{}, api.ErrDown)
			do(t, "Start", d.Start(), api.OK)
			// At the flush the record's sector is the first one in the cache; at the write it is not there.
			if at == 2 && stay&1 != 0 {
				gets(t, fmt.Sprint("new ", at, stay), d, next, last, api.OK)
			} else {
				gets(t, fmt.Sprint("old ", at, stay), d, last, ahead, api.OK)
			}
		}
	}
}

// P16.3: after every crash during a Put the last record is the new one or the one that was last before.
func TestAtomicity(t *testing.T) {
	for _, last := range good() {
		if last.Seqn == math.MaxInt64 {
			continue
		}
		next := rec(last.Seqn + 1)
		crashes(t, next, last, api.Record{})
		if last.Seqn > 1 {
			crashes(t, next, last, rec(last.Seqn-1))
		}
	}
}

// P16.3: the same for the first record of a disk: it is there, or there is none.
func TestFirstRecord(t *testing.T) {
	for at := 1; at <= 3; at++ {
		for stay := range 2 {
			d := made(t, 3)
			do(t, "Arm", d.Arm(at, []byte{byte(stay)}), api.OK)
			e := commit.Put(d, rec(1))
			if at == 3 {
				do(t, "Put", e, api.OK)
				do(t, "Crash", d.Crash([]byte{byte(stay)}), api.OK)
			} else {
				do(t, "Put", e, api.ErrDown)
			}
			do(t, "Start", d.Start(), api.OK)
			if at == 3 || at == 2 && stay == 1 {
				gets(t, "there", d, rec(1), api.Record{}, api.OK)
			} else {
				gets(t, "not there", d, api.Record{}, api.Record{}, api.ErrCommit)
			}
		}
	}
}

// P16.4: Get returns the record that was put; the one that was last before is the previous one if its Seqn is one less.
func TestRoundTrip(t *testing.T) {
	for _, r := range good() {
		for _, apart := range []int{-1, 1, 2, 3, 5, 100, 101} {
			before := r.Seqn - apart
			if apart < 0 {
				before = 0 // no record
			} else if before < 1 {
				continue
			}
			d := used(t, 5)
			want := api.Record{}
			if before > 0 {
				do(t, "Put", commit.Put(d, rec(before)), api.OK)
			}
			if apart == 1 {
				want = rec(before)
			}
			do(t, "Put", commit.Put(d, r), api.OK)
			gets(t, fmt.Sprint(r, apart), d, r, want, api.OK)
			do(t, "Crash", d.Crash(nil), api.OK)
			do(t, "Start", d.Start(), api.OK)
			gets(t, fmt.Sprint(r, apart, " crashed"), d, r, want, api.OK)
		}
	}
}

// P16.3, P16.4: a long run of records, each one more than the last one, with a crash at one operation or none.
func TestRun(t *testing.T) {
	r := rand.New(rand.NewSource(16))
	d := made(t, 4)
	var last, ahead api.Record
	for range 3000 {
		next := drawn(r, last.Seqn+1)
		stay := byte(r.Intn(2))
		at := 1 + r.Intn(4)
		do(t, "Arm", d.Arm(at, []byte{stay}), api.OK)
		e := commit.Put(d, next)
		if d.Up() {
			do(t, "Crash", d.Crash(nil), api.OK)
		}
		do(t, "Start", d.Start(), api.OK)
		if e == api.OK || at == 2 && stay == 1 {
			last, ahead = next, last
		}
		want := api.OK
		if last.Seqn == 0 {
			want = api.ErrCommit
		}
		gets(t, fmt.Sprint(next.Seqn), d, last, ahead, want)
	}
	if last.Seqn < 1000 {
		t.Errorf("the last record is %d", last.Seqn)
	}
}

// drawn returns a valid record of that Seqn.
func drawn(r *rand.Rand, seqn int) api.Record {
	x := api.Record{Seqn: seqn, Slot: r.Intn(2), Len: 1 + r.Intn(4096), Trial: r.Intn(2) == 0}
	r.Read(x.Hash[:])
	return x
}

// step does one drawn thing to both disks, and holds them to be alike behind it.
func step(x twins, r *rand.Rand) {
	stay := mixed(r.Intn(3), r.Intn(256))
	last, _, _ := get(x.twin)
	n := max(1, last.Seqn+r.Intn(4)-1)
	switch r.Intn(12) {
	case 0:
		x.both((*disk.Disk).Flush)
	case 1:
		at := r.Intn(6)
		x.both(func(d *disk.Disk) api.Errno { return d.Arm(at, stay) })
	case 2:
		x.both(func(d *disk.Disk) api.Errno { return d.Crash(stay) })
	case 3, 4:
		x.both((*disk.Disk).Start)
	case 5: // a record in any sector, a byte of it otherwise or none
		s := sectorOf(drawn(r, n))
		s[r.Intn(64)] ^= byte(r.Intn(2) * r.Intn(256))
		i := r.Intn(x.twin.Len())
		x.both(func(d *disk.Disk) api.Errno { return d.Write(i, s) })
	case 6:
		p := drawn(r, n)
		p.Seqn, p.Slot, p.Len = p.Seqn*r.Intn(3)-r.Intn(2), p.Slot+r.Intn(2), p.Len+r.Intn(2)*r.Intn(4096)
		x.put(p)
	case 7:
		x.put(drawn(r, 1+int(r.Uint64()>>1)%math.MaxInt64))
	default:
		x.put(drawn(r, n))
	}
	x.get()
}

// P16.1 (Put), P16.2, P16.3, P16.4: drawn calls on disks of any size, with flushes and crashes in between, do and return what the definitions say.
func TestDrawnCalls(t *testing.T) {
	r := rand.New(rand.NewSource(1616))
	for _, sectors := range []int{1, 2, 3, 4, 10} {
		for range 60 {
			x := pair(t, sectors)
			for range 100 {
				step(x, r)
			}
		}
	}
}
