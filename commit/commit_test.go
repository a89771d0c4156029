package commit_test

import (
	"bytes"
	"encoding/hex"
	"fmt"
	"math"
	"testing"

	"citadel/api"
	"citadel/commit"
	"citadel/disk"
)

// P16.1 (May), P16.1 (Put), P16.2: the chapter's examples.
func TestExamples(t *testing.T) {
	d := made(t, api.Sectors)
	one := api.Record{Seqn: 1, Slot: 0, Len: 5, Hash: full(3)}
	two := api.Record{Seqn: 2, Slot: 1, Len: 7, Trial: true, Hash: full(4)}
	gets(t, "empty", d, api.Record{}, api.Record{}, api.ErrCommit)
	do(t, "Put of 1", commit.Put(d, one), api.OK)
	dirty(t, "Put of 1", d)
	gets(t, "1", d, one, api.Record{}, api.OK)
	do(t, "Put of 2", commit.Put(d, two), api.OK)
	dirty(t, "Put of 2", d)
	gets(t, "2", d, two, one, api.OK)
	for _, r := range []api.Record{{Seqn: 0, Len: 5}, {Seqn: 3, Slot: 2, Len: 5}, {Seqn: 3, Slot: -1, Len: 5}, {Seqn: 3, Len: 0}, {Seqn: 3, Len: 4097}} {
		if commit.May(r) {
			t.Errorf("May(%v)", r)
		}
		do(t, fmt.Sprint(r), commit.Put(d, r), api.ErrArg)
	}
	gets(t, "refused", d, two, one, api.OK)
	nine := api.Record{Seqn: 9, Len: 1}
	do(t, "Put of 9", commit.Put(d, nine), api.OK)
	gets(t, "9", d, nine, api.Record{}, api.OK)
}

// P16.1 (May): each field's edges by themselves.
func TestMayEdges(t *testing.T) {
	for _, c := range []struct {
		r    api.Record
		want bool
	}{
		{api.Record{Seqn: math.MinInt64, Len: 1}, false}, {api.Record{Seqn: -1, Len: 1}, false}, {api.Record{Seqn: 0, Len: 1}, false},
		{api.Record{Seqn: 1, Len: 1}, true}, {api.Record{Seqn: 2, Len: 1}, true}, {api.Record{Seqn: math.MaxInt64, Len: 1}, true},
		{api.Record{Seqn: 1, Slot: math.MinInt64, Len: 1}, false}, {api.Record{Seqn: 1, Slot: -1, Len: 1}, false}, {api.Record{Seqn: 1, Slot: 1, Len: 1}, true},
		{api.Record{Seqn: 1, Slot: 2, Len: 1}, false}, {api.Record{Seqn: 1, Slot: 256, Len: 1}, false}, {api.Record{Seqn: 1, Slot: 257, Len: 1}, false}, {api.Record{Seqn: 1, Slot: math.MaxInt64, Len: 1}, false},
		{api.Record{Seqn: 1, Len: math.MinInt64}, false}, {api.Record{Seqn: 1, Len: -1}, false}, {api.Record{Seqn: 1, Len: 0}, false}, {api.Record{Seqn: 1, Len: 4095}, true},
		{api.Record{Seqn: 1, Len: 4096}, true}, {api.Record{Seqn: 1, Len: 4097}, false}, {api.Record{Seqn: 1, Len: math.MaxInt64}, false},
		{api.Record{}, false}, {api.Record{Slot: 1, Trial: true, Hash: full(255)}, false},
	} {
		for _, trial := range []bool{false, true} {
			for _, hash := range []api.Tag{{}, full(255), {31: 1}} {
				c.r.Trial, c.r.Hash = trial, hash
				if got := commit.May(c.r); got != c.want {
					t.Errorf("May(%v) = %v", c.r, got)
				}
			}
		}
	}
}

// P16.1 (May), P16.1 (Put): every record at the edges, valid ones and others; what is not valid writes nothing.
func TestMayAndPut(t *testing.T) {
	for _, r := range good() {
		if !commit.May(r) {
			t.Errorf("May(%v) is false", r)
		}
		x := pair(t, 3)
		do(t, fmt.Sprint(r), x.put(r), api.OK)
		x.get()
	}
	x := pair(t, 3)
	for _, r := range bad() {
		if commit.May(r) {
			t.Errorf("May(%v) is true", r)
		}
		do(t, fmt.Sprint(r), x.put(r), api.ErrArg)
	}
	dirty(t, "refused", x.d, 0)
}

// P16.1 (Put): two sectors, byte by byte.
func TestSectorBytes(t *testing.T) {
	for _, c := range []struct {
		r    api.Record
		want string
	}{
		{api.Record{Seqn: 1, Slot: 0, Len: 5, Hash: full(0xab)}, "0132" +
			"0000000000000001" + "00" + "0000000000000005" + "00" + "abababababababababababababababababababababababababababababababab" +
			"0000000000000000" + "524bba16"},
		{api.Record{Seqn: 0x0102030405060708, Slot: 1, Len: 4096, Trial: true, Hash: api.Tag{0: 1, 31: 2}}, "0132" +
			"0102030405060708" + "01" + "0000000000001000" + "01" + "0100000000000000000000000000000000000000000000000000000000000002" +
			"0000000000000000" + "13ac0f49"},
	} {
		d := made(t, 3)
		do(t, "Put", commit.Put(d, c.r), api.OK)
		if s := d.Flushed(c.r.Seqn % 2); hex.EncodeToString(s) != c.want {
			t.Errorf("%v: %x, want %s", c.r, s, c.want)
		}
	}
}

// P16.1 (Put): the sector of a record, and that its number is the record's Seqn modulo 2; no other sector changes.
func TestPutSector(t *testing.T) {
	for _, r := range good() {
		d := made(t, 4)
		for i := range 4 {
			do(t, "Write", d.Write(i, mixed(64, i)), api.OK)
		}
		do(t, "Put", commit.Put(d, r), api.OK)
		dirty(t, "Put", d)
		for i := range 4 {
			want := mixed(64, i)
			if i == r.Seqn%2 {
				want = sectorOf(r)
			}
			if s := d.Flushed(i); !bytes.Equal(s, want) {
				t.Errorf("%v: sector %d has %x, want %x", r, i, s, want)
			}
		}
	}
}

// P16.1 (Put): records by turns, each replaces the one before the previous one.
func TestPutByTurns(t *testing.T) {
	x := pair(t, 5)
	for n := 1; n <= 40; n++ {
		do(t, "Put", x.put(rec(n)), api.OK)
		ahead := rec(n - 1)
		if n == 1 {
			ahead = api.Record{}
		}
		gets(t, fmt.Sprint(n), x.d, rec(n), ahead, api.OK)
	}
}

// P16.1 (Put): the flush is one of the whole cache, behind the write: two operations.
func TestPutFlushes(t *testing.T) {
	for _, at := range []int{1, 2} {
		for _, stay := range [][]byte{nil, {1}, {2}, {4}, {3}, {5}, {6}, {7}} {
			x := pair(t, 5) // the sectors 0 and 3 are cached
			x.both(func(d *disk.Disk) api.Errno { return d.Arm(at, stay) })
			do(t, fmt.Sprint("armed ", at), x.put(rec(5)), api.ErrDown)
			dirty(t, "crashed", x.d)
			x.both((*disk.Disk).Start)
			kept := at == 2 && len(stay) > 0 && stay[0]&2 != 0 // the sectors 0, 1, 3 are cached then
			if is := bytes.Equal(x.d.Flushed(1), sectorOf(rec(5))); is != kept {
				t.Errorf("armed %d, %v stays: the record stands there: %v", at, stay, is)
			}
			x.get()
		}
	}
	x := pair(t, 5)
	x.both(func(d *disk.Disk) api.Errno { return d.Arm(3, nil) })
	do(t, "two operations", x.put(rec(5)), api.OK)
	dirty(t, "two operations", x.d)
	do(t, "the third", x.put(rec(6)), api.ErrDown)
}

// P16.1 (Put): at a sector that is not there nothing is written, nor flushed.
func TestPutToSmallDisk(t *testing.T) {
	x := pair(t, 1)
	do(t, "odd", x.put(rec(7)), api.ErrSector)
	dirty(t, "odd", x.d, 0)
	do(t, "even", x.put(rec(8)), api.OK)
	dirty(t, "even", x.d)
	do(t, "odd", x.put(rec(9)), api.ErrSector)
	x = pair(t, 2)
	do(t, "odd", x.put(rec(7)), api.OK)
	do(t, "even", x.put(rec(8)), api.OK)
	gets(t, "two sectors", x.d, rec(8), rec(7), api.OK)
}

// P16.1 (Put): a disk that is down, and one that is up again.
func TestPutDown(t *testing.T) {
	x := pair(t, 3)
	x.both(func(d *disk.Disk) api.Errno { return d.Crash([]byte{255}) })
	do(t, "down", x.put(rec(1)), api.ErrDown)
	do(t, "down", x.put(rec(2)), api.ErrDown)
	x.both((*disk.Disk).Start)
	gets(t, "up", x.d, api.Record{}, api.Record{}, api.ErrCommit)
	do(t, "up", x.put(rec(1)), api.OK)
}

// P0.2, P16.1 (Put): of several errors the first one counts.
func TestPutFirstError(t *testing.T) {
	down, small := made(t, 1), made(t, 1)
	do(t, "Crash", down.Crash(nil), api.OK)
	do(t, "Arm", small.Arm(1, nil), api.OK)
	for _, r := range []api.Record{{}, {Seqn: 1}, {Seqn: 2, Slot: 2, Len: 1}, {Seqn: -1, Len: 1}} {
		do(t, "no disk, not valid", commit.Put(nil, r), api.ErrNil)
		do(t, "no disk, not valid", commit.Put(new(disk.Disk), r), api.ErrNil)
		do(t, "not valid, down", commit.Put(down, r), api.ErrArg)
		do(t, "not valid, no sector, crash", commit.Put(small, r), api.ErrArg)
	}
	do(t, "no disk", commit.Put(nil, rec(1)), api.ErrNil)
	do(t, "down, no sector", commit.Put(down, rec(1)), api.ErrDown)
	do(t, "no sector, crash", commit.Put(small, rec(1)), api.ErrSector)
	if !small.Up() {
		t.Error("a Put that is refused is an operation")
	}
	do(t, "crash", commit.Put(small, rec(2)), api.ErrDown)
}
