package attempt_test

import (
	"bytes"
	"encoding/hex"
	"fmt"
	"math"
	"testing"

	"citadel/api"
	"citadel/attempt"
	"citadel/disk"
)

// P17.1, P17.2 (Get), P17.2 (Next): the chapter's examples.
func TestExamples(t *testing.T) {
	d := made(t, api.Sectors)
	gets(t, "empty", d, 4, 0, api.OK)
	nexts(t, "empty", d, 4, 1, api.OK)
	nexts(t, "1", d, 4, 2, api.OK)
	gets(t, "2", d, 4, 2, api.OK)
	gets(t, "2", d, 5, 0, api.OK)
	nexts(t, "2", d, 5, 1, api.OK)
	gets(t, "another", d, 4, 0, api.OK)
	do(t, "Put(5, 0)", attempt.Put(d, 5, 0), api.ErrArg)
	nexts(t, "0", d, 0, 0, api.ErrArg)
	gets(t, "refused", d, 5, 1, api.OK)
	do(t, "Put for another Seqn", attempt.Put(d, 9, 2), api.OK)
	gets(t, "behind a Put for another Seqn", d, 5, 0, api.OK)
	gets(t, "behind a Put", d, 9, 2, api.OK)
}

// P17.1: both numbers at their edges; what is below 1 writes nothing.
func TestPutNumbers(t *testing.T) {
	x := pair(t, 4)
	for _, seqn := range good() {
		for _, n := range good() {
			do(t, fmt.Sprint("Put ", seqn, n), x.put(seqn, n), api.OK)
			gets(t, "Put", x.d, seqn, n, api.OK)
			gets(t, "Put", x.d, seqn-1, 0, api.OK)
		}
	}
	x = pair(t, 4) // the sectors 0 and 3 are cached
	for _, low := range bad() {
		for _, other := range append(good(), bad()...) {
			do(t, fmt.Sprint("Put ", low, other), x.put(low, other), api.ErrArg)
			do(t, fmt.Sprint("Put ", other, low), x.put(other, low), api.ErrArg)
		}
	}
	dirty(t, "refused", x.d, 0, 3)
}

// P17.1: sectors, byte by byte, whose checksums were worked out elsewhere.
func TestSectorBytes(t *testing.T) {
	rest := "000000000000000000000000000000000000000000000000000000000000000000000000000000000000" // 42 bytes
	for _, c := range []struct {
		seqn, n int
		want    string
	}{
		{1, 1, "0210" + "0000000000000001" + "0000000000000001" + rest + "e59cd76a"},
		{4, 2, "0210" + "0000000000000004" + "0000000000000002" + rest + "788ffd3a"},
		{0x0102030405060708, 0x1112131415161718, "0210" + "0102030405060708" + "1112131415161718" + rest + "afefee08"},
		{math.MaxInt64, math.MaxInt64, "0210" + "7fffffffffffffff" + "7fffffffffffffff" + rest + "2175548d"},
	} {
		d := made(t, 3)
		do(t, "Put", attempt.Put(d, c.seqn, c.n), api.OK)
		if s := d.Flushed(2); hex.EncodeToString(s) != c.want {
			t.Errorf("Put(%d, %d): %x, want %s", c.seqn, c.n, s, c.want)
		}
	}
}

// unchanged holds all sectors but sector 2 to have flushed what they had in the cache, or else what they had flushed; sector 2 has s.
func unchanged(t *testing.T, what string, d, before *disk.Disk, s []byte) {
	t.Helper()
	for i := range before.Len() {
		want, _ := before.Read(i)
		if i == place {
			want = s
		}
		if b := d.Flushed(i); !bytes.Equal(b, want) {
			t.Errorf("%s: sector %d has %x, want %x", what, i, b, want)
		}
	}
	dirty(t, what, d)
}

// P17.1, P17.2 (Next): the record lies in sector 2, no other sector changes, and the whole cache is flushed.
func TestPlace(t *testing.T) {
	for _, sectors := range []int{3, 4, 7, api.Sectors, 1024} {
		d := used(t, sectors)
		do(t, "Put", attempt.Put(d, 6, 7), api.OK)
		unchanged(t, "Put", d, used(t, sectors), sectorOf(6, 7))
		d = used(t, sectors)
		nexts(t, "Next", d, 6, 1, api.OK)
		unchanged(t, "Next", d, used(t, sectors), sectorOf(6, 1))
		nexts(t, "Next again", d, 6, 2, api.OK)
		unchanged(t, "Next again", d, used(t, sectors), sectorOf(6, 2))
	}
}

// P17.1: a Put is two operations, the write and then the flush of the whole cache; at each of them the disk may crash.
func TestPutOperations(t *testing.T) {
	for at := 1; at <= 2; at++ {
		for stay := range 8 {
			x := pair(t, 5) // the sectors 0 and 3 are cached
			x.both((*disk.Disk).Flush)
			x.put(5, 3)
			x.both(func(d *disk.Disk) api.Errno { return d.Write(1, mixed(64, 9)) })
			x.both(func(d *disk.Disk) api.Errno { return d.Write(4, mixed(64, 99)) })
			x.both(func(d *disk.Disk) api.Errno { return d.Arm(at, []byte{byte(stay)}) })
			do(t, fmt.Sprint("armed ", at), x.put(8, 6), api.ErrDown)
			dirty(t, "crashed", x.d)
			x.both((*disk.Disk).Start)
			if at == 2 && stay&2 != 0 { // the sectors 1, 2, 4 are cached then
				only(t, "new", x.d, 8, 6)
			} else {
				only(t, "old", x.d, 5, 3)
			}
		}
	}
	x := pair(t, 5)
	x.both(func(d *disk.Disk) api.Errno { return d.Arm(3, nil) })
	do(t, "two operations", x.put(5, 3), api.OK)
	do(t, "the third", x.put(5, 4), api.ErrDown)
}

// P17.1: a disk that has no sector 2; nothing is written there, nor flushed.
func TestPutToSmallDisk(t *testing.T) {
	for sectors := 1; sectors <= 2; sectors++ {
		x := pair(t, sectors)
		do(t, "small", x.put(7, 1), api.ErrSector)
		do(t, "small", x.put(math.MaxInt64, math.MaxInt64), api.ErrSector)
		dirty(t, "small", x.d, 0)
	}
	x := pair(t, 3)
	do(t, "large enough", x.put(7, 1), api.OK)
}

// P17.1: a disk that is down, and one that is up again.
func TestPutDown(t *testing.T) {
	x := pair(t, 3)
	x.both(func(d *disk.Disk) api.Errno { return d.Crash([]byte{255}) })
	do(t, "down", x.put(7, 1), api.ErrDown)
	x.both((*disk.Disk).Start)
	gets(t, "up", x.d, 7, 0, api.OK)
	do(t, "up", x.put(7, 1), api.OK)
}

// P0.2, P17.1: of several errors the first one counts.
func TestPutFirstError(t *testing.T) {
	down, small, both, armed := made(t, 3), made(t, 2), made(t, 2), made(t, 3)
	do(t, "Crash", down.Crash(nil), api.OK)
	do(t, "Crash", both.Crash(nil), api.OK)
	do(t, "Arm", small.Arm(1, nil), api.OK)
	do(t, "Arm", armed.Arm(1, nil), api.OK)
	for _, c := range [][2]int{{0, 0}, {0, 1}, {1, 0}, {-1, 5}, {5, -1}, {math.MinInt64, math.MaxInt64}, {math.MaxInt64, math.MinInt64}} {
		do(t, "no disk, a number", attempt.Put(nil, c[0], c[1]), api.ErrNil)
		do(t, "no disk, a number", attempt.Put(new(disk.Disk), c[0], c[1]), api.ErrNil)
		for _, d := range []*disk.Disk{down, small, both, armed} {
			do(t, "a number, the disk", attempt.Put(d, c[0], c[1]), api.ErrArg)
		}
	}
	do(t, "no disk", attempt.Put(nil, 1, 1), api.ErrNil)
	do(t, "no disk", attempt.Put(new(disk.Disk), 1, 1), api.ErrNil)
	do(t, "down", attempt.Put(down, 1, 1), api.ErrDown)
	do(t, "down, no sector", attempt.Put(both, 1, 1), api.ErrDown)
	do(t, "no sector, crash", attempt.Put(small, 1, 1), api.ErrSector)
	if !small.Up() || !armed.Up() {
		t.Error("a Put that is refused is an operation")
	}
	do(t, "crash", attempt.Put(armed, 1, 1), api.ErrDown)
	if armed.Up() {
		t.Error("the write is no operation")
	}
}
