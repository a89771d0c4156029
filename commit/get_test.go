package commit_test

import (
	"bytes"
	"fmt"
	"math"
	"slices"
	"testing"

	"citadel/api"
	"citadel/commit"
	"citadel/disk"
)

// P16.2: which records are the last and the previous one, for records in none of the sectors, in one, in both.
func TestGet(t *testing.T) {
	const most = math.MaxInt64
	for _, c := range []struct{ zero, one, last, ahead int }{ // 0: none
		{0, 0, 0, 0},
		{2, 0, 2, 0}, {0, 1, 1, 0}, {0, 3, 3, 0}, {most - 1, 0, most - 1, 0}, {0, most, most, 0},
		{2, 1, 2, 1}, {2, 3, 3, 2}, {4, 3, 4, 3}, {4, 5, 5, 4}, {1 << 40, 1<<40 + 1, 1<<40 + 1, 1 << 40}, {1 << 40, 1<<40 - 1, 1 << 40, 1<<40 - 1}, {most - 1, most, most, most - 1}, {most - 1, most - 2, most - 1, most - 2},
		{4, 1, 4, 0}, {2, 5, 5, 0}, {6, 3, 6, 0}, {2, 9, 9, 0}, {100, 3, 100, 0}, {2, most, most, 0}, {most - 1, 1, most - 1, 0}, {256, 1, 256, 0}, {1<<32 + 2, 1, 1<<32 + 2, 0}, {2, 1<<32 + 3, 1<<32 + 3, 0},
	} {
		var sectors [2][]byte
		var records [3]api.Record // 2: none
		for i, n := range []int{c.zero, c.one} {
			if n != 0 {
				records[i] = rec(n)
				sectors[i] = sectorOf(rec(n))
			}
		}
		at := func(n int) api.Record {
			return records[slices.Index([]int{c.zero, c.one, 0}, n)]
		}
		want := api.OK
		if c.last == 0 {
			want = api.ErrCommit
		}
		d := holding(t, sectors[0], sectors[1])
		gets(t, fmt.Sprint(c), d, at(c.last), at(c.ahead), want)
		defined(t, fmt.Sprint(c), d)
	}
}

// P16.2: a record in the sector of the other parity counts as none, alone, beside another one, or the same in both.
func TestOtherParity(t *testing.T) {
	for _, c := range []struct {
		zero, one, last int // the last one: 0: none; none has a previous one
	}{
		{1, 0, 0}, {0, 2, 0}, {3, 0, 0}, {0, 4, 0}, {1, 2, 0}, {3, 2, 0}, {math.MaxInt64, math.MaxInt64 - 1, 0},
		{1, 1, 1}, {2, 2, 2}, {3, 3, 3}, {math.MaxInt64, math.MaxInt64, math.MaxInt64},
		{2, 4, 2}, {4, 2, 4}, {3, 1, 1}, {1, 3, 3}, {5, 3, 3}, {1000, 998, 1000},
	} {
		var sectors [2][]byte
		for i, n := range []int{c.zero, c.one} {
			if n != 0 {
				sectors[i] = sectorOf(rec(n))
			}
		}
		d := holding(t, sectors[0], sectors[1])
		if c.last == 0 {
			gets(t, fmt.Sprint(c), d, api.Record{}, api.Record{}, api.ErrCommit)
		} else {
			gets(t, fmt.Sprint(c), d, rec(c.last), api.Record{}, api.OK)
		}
	}
}

// P16.2: records of which only one field differs, and those with the same fields as a neighbour, are told apart.
func TestGetFields(t *testing.T) {
	for _, r := range good() {
		if r.Seqn == math.MaxInt64 {
			continue
		}
		for _, next := range []api.Record{
			{Seqn: r.Seqn + 1, Slot: r.Slot, Len: r.Len, Trial: r.Trial, Hash: r.Hash},
			{Seqn: r.Seqn + 1, Slot: 1 - r.Slot, Len: r.Len, Trial: !r.Trial, Hash: r.Hash},
			{Seqn: r.Seqn + 1, Slot: r.Slot, Len: 4097 - r.Len, Trial: r.Trial, Hash: full(1)},
		} {
			var sectors [2][]byte
			sectors[r.Seqn%2], sectors[next.Seqn%2] = sectorOf(r), sectorOf(next)
			gets(t, "two", holding(t, sectors[0], sectors[1]), next, r, api.OK)
		}
	}
}

// without holds Get to find the record r where s stands in place of its neighbour's sector, and nothing where s stands alone.
func without(t *testing.T, what string, s []byte, neighbour int) {
	t.Helper()
	r := rec(neighbour)
	both, alone := [2][]byte{s, s}, [2][]byte{s, s}
	both[r.Seqn%2], alone[r.Seqn%2] = sectorOf(r), nil
	gets(t, what, holding(t, both[0], both[1]), r, api.Record{}, api.OK)
	gets(t, what, holding(t, alone[0], alone[1]), api.Record{}, api.Record{}, api.ErrCommit)
	defined(t, what, holding(t, s, s))
}

// P16.2: a sector of which one byte is otherwise is no record, whatever the byte is.
func TestOneByte(t *testing.T) {
	for _, n := range []int{6, 7} {
		for at := range 64 {
			for x := 1; x < 256; x++ {
				s := sectorOf(rec(n))
				s[at] ^= byte(x)
				if x&(x-1) == 0 || x == 255 {
					without(t, fmt.Sprintf("byte %d ^ %d", at, x), s, n+1)
					without(t, fmt.Sprintf("byte %d ^ %d", at, x), s, n-1)
				} else {
					defined(t, fmt.Sprintf("byte %d ^ %d", at, x), holding(t, s, s))
				}
			}
		}
	}
}

// P16.2: a sector of which one byte is otherwise, with the checksum that it asks for, is another record or none.
func TestOneByteChecked(t *testing.T) {
	counts := map[api.Errno]int{}
	for _, n := range []int{6, 7} {
		for at := range 60 {
			for x := 1; x < 256; x++ {
				s := sectorOf(rec(n))
				s[at] ^= byte(x)
				d := holding(t, checked(s), checked(s))
				defined(t, fmt.Sprintf("byte %d ^ %d, checked", at, x), d)
				_, _, e := commit.Get(d)
				counts[e]++
			}
		}
	}
	if counts[api.OK] == 0 || counts[api.ErrCommit] == 0 || len(counts) != 2 {
		t.Errorf("answers by their errors: %v", counts)
	}
}

// P16.2: sectors that are framed, but hold no valid record.
func TestFramedOtherwise(t *testing.T) {
	for _, n := range []int{6, 7} {
		for kind := range 256 {
			if kind != 1 {
				without(t, fmt.Sprint("kind ", kind), framed(byte(kind), payload(rec(n))), n+1)
			}
		}
		p := payload(rec(n))
		for size := range 59 {
			if size != 50 {
				long := append(bytes.Clone(p), make([]byte, 8)...)
				without(t, fmt.Sprint("length ", size), framed(1, long[:size]), n-1)
				without(t, fmt.Sprint("length ", size), framed(1, mixed(size, n)), n-1)
			}
		}
		without(t, "a byte ahead", framed(1, append([]byte{0}, p...)), n+1)
		without(t, "a byte less ahead", framed(1, p[1:]), n+1)
		s := sectorOf(rec(n))
		s[52] = 1 // the first byte behind the payload
		without(t, "a byte behind", checked(s), n+1)
		s = sectorOf(rec(n))
		s[59] = 1
		without(t, "a byte far behind", checked(s), n+1)
		without(t, "no record", framed(1, mixed(50, n)), n+1)
		without(t, "zero bytes", framed(1, make([]byte, 50)), n+1)
		without(t, "no checksum", append(bytes.Clone(sectorOf(rec(n))[:60]), 0, 0, 0, 0), n+1)
	}
}

// P16.2: sectors that hold a record which is not valid, and flags that are none.
func TestNotValid(t *testing.T) {
	for _, r := range bad() {
		if r.Slot == int(byte(r.Slot)) {
			without(t, fmt.Sprint(r), sectorOf(r), 8)
			without(t, fmt.Sprint(r), sectorOf(r), 9)
		}
	}
	for n := 6; n <= 7; n++ {
		for slot := 2; slot < 256; slot++ {
			r := rec(n)
			r.Slot = slot
			without(t, fmt.Sprint(r), sectorOf(r), n+1)
		}
		for flag := 2; flag < 256; flag++ {
			p := payload(rec(n))
			p[17] = byte(flag)
			without(t, fmt.Sprint("flag ", flag), framed(1, p), n+1)
		}
	}
}

// P16.2: what is in the cache counts, ahead of what was flushed.
func TestGetCached(t *testing.T) {
	d := holding(t, sectorOf(rec(4)), sectorOf(rec(5)))
	do(t, "Write", d.Write(0, sectorOf(rec(6))), api.OK)
	gets(t, "cached", d, rec(6), rec(5), api.OK)
	do(t, "Write", d.Write(1, make([]byte, 64)), api.OK)
	gets(t, "cached", d, rec(6), api.Record{}, api.OK)
	do(t, "Write", d.Write(0, make([]byte, 64)), api.OK)
	gets(t, "cached", d, api.Record{}, api.Record{}, api.ErrCommit)
	dirty(t, "Get", d, 0, 1)
	do(t, "Crash", d.Crash([]byte{1}), api.OK)
	do(t, "Start", d.Start(), api.OK)
	gets(t, "crashed", d, rec(5), api.Record{}, api.OK)
}

// P16.2: no other sector counts.
func TestOtherSectors(t *testing.T) {
	d := made(t, api.Sectors)
	for i := 2; i < api.Sectors; i++ {
		do(t, "Write", d.Write(i, sectorOf(rec(i))), api.OK)
	}
	gets(t, "others", d, api.Record{}, api.Record{}, api.ErrCommit)
	do(t, "Put", commit.Put(d, rec(1)), api.OK)
	gets(t, "others and 1", d, rec(1), api.Record{}, api.OK)
}

// P0.2, P16.2: of several errors the first one counts; beside it there are zero records, whatever stands on the disk.
func TestGetFirstError(t *testing.T) {
	none := api.Record{}
	for _, d := range []*disk.Disk{nil, new(disk.Disk)} {
		gets(t, "no disk", d, none, none, api.ErrNil)
	}
	small := made(t, 1)
	gets(t, "no sector 1, no record", small, none, none, api.ErrSector)
	do(t, "Put", commit.Put(small, rec(2)), api.OK)
	gets(t, "no sector 1, a record", small, none, none, api.ErrSector)
	do(t, "Crash", small.Crash(nil), api.OK)
	gets(t, "down, no sector 1", small, none, none, api.ErrDown)
	do(t, "Start", small.Start(), api.OK)
	gets(t, "no sector 1, a record", small, none, none, api.ErrSector)
	d := holding(t, sectorOf(rec(4)), sectorOf(rec(5)))
	do(t, "Crash", d.Crash(nil), api.OK)
	gets(t, "down, records", d, none, none, api.ErrDown)
	do(t, "Start", d.Start(), api.OK)
	gets(t, "records", d, rec(5), rec(4), api.OK)
	empty := made(t, 2)
	gets(t, "no record", empty, none, none, api.ErrCommit)
	do(t, "Crash", empty.Crash(nil), api.OK)
	gets(t, "down, no record", empty, none, none, api.ErrDown)
}
