package attempt_test

import (
	"bytes"
	"fmt"
	"math"
	"testing"

	"citadel/api"
	"citadel/attempt"
	"citadel/disk"
)

// P17.2 (Get), P17.4: the number of attempts of the Seqn that the record states, and of every other one.
func TestGet(t *testing.T) {
	for _, seqn := range good() {
		for _, n := range good() {
			only(t, fmt.Sprint("holding ", seqn, n), holding(t, sectorOf(seqn, n)), seqn, n)
		}
	}
}

// P17.2 (Get): on an empty disk every number is 0, and a Seqn below 1 is no error.
func TestGetOfNothing(t *testing.T) {
	for _, sectors := range []int{3, 4, api.Sectors, 1024} {
		d := made(t, sectors)
		for _, seqn := range append(good(), bad()...) {
			gets(t, "empty", d, seqn, 0, api.OK)
		}
		dirty(t, "empty", d)
	}
}

// nothing holds Get to return 0 where s stands in sector 2, for seqn and its neighbours and for the number that lies where a record's Seqn does, and Next to begin at 1.
func nothing(t *testing.T, what string, s []byte, seqn int) {
	t.Helper()
	d := holding(t, s)
	lies, _, _ := standing(s)
	for _, of := range []int{seqn, seqn - 1, seqn + 1, lies, 0} {
		gets(t, what, d, of, 0, api.OK)
	}
	if seqn > 0 {
		nexts(t, what, d, seqn, 1, api.OK)
		gets(t, what, d, seqn, 1, api.OK)
	}
}

// P17.2 (Get): a sector of which one byte is otherwise states nothing, whatever the byte is.
func TestOneByte(t *testing.T) {
	for at := range 64 {
		for x := 1; x < 256; x++ {
			s := sectorOf(6, 3)
			s[at] ^= byte(x)
			nothing(t, fmt.Sprintf("byte %d ^ %d", at, x), s, 6)
		}
	}
}

// P17.2 (Get): a sector of which one byte is otherwise, with the checksum that it asks for, states other numbers or nothing.
func TestOneByteChecked(t *testing.T) {
	stated := map[bool]int{}
	for at := range 60 {
		for x := 1; x < 256; x++ {
			s := sectorOf(6, 3)
			s[at] ^= byte(x)
			s = checked(s)
			seqn, n, ok := standing(s)
			stated[ok]++
			if ok {
				d := holding(t, s)
				gets(t, fmt.Sprintf("byte %d ^ %d, checked", at, x), d, seqn, n, api.OK)
				gets(t, fmt.Sprintf("byte %d ^ %d, checked", at, x), d, seqn^1, 0, api.OK)
			} else {
				nothing(t, fmt.Sprintf("byte %d ^ %d, checked", at, x), s, 6)
			}
		}
	}
	// The 16 bytes of the two numbers: all but the sign of each, and the last byte of each where it makes the number 0.
	if stated[true] != 16*255-2*128-2 {
		t.Errorf("%d sectors state numbers", stated[true])
	}
}

// P17.2 (Get): sectors that are framed, but hold no attempt record.
func TestFramedOtherwise(t *testing.T) {
	p := payload(6, 3)
	for kind := range 256 {
		if kind != 2 {
			nothing(t, fmt.Sprint("kind ", kind), framed(byte(kind), p), 6)
		}
	}
	long := append(bytes.Clone(p), make([]byte, 42)...)
	for size := range 59 {
		if size != 16 {
			nothing(t, fmt.Sprint("length ", size), framed(2, long[:size]), 6)
			nothing(t, fmt.Sprint("length ", size), framed(2, append(bytes.Clone(p), mixed(42, 1)...)[:size]), 6)
			nothing(t, fmt.Sprint("length ", size), framed(2, mixed(size, 1)), 6)
		}
	}
	nothing(t, "a byte ahead", framed(2, append([]byte{0}, p...)), 6)
	nothing(t, "a byte less ahead", framed(2, p[1:]), 6)
	nothing(t, "a byte less behind", framed(2, p[:15]), 6)
	nothing(t, "a byte more", framed(2, append(bytes.Clone(p), 3)), 6)
	for _, at := range []int{18, 19, 59} {
		s := sectorOf(6, 3)
		s[at] = 1
		nothing(t, fmt.Sprint("a byte behind the payload, at ", at), checked(s), 6)
	}
	nothing(t, "no checksum", append(sectorOf(6, 3)[:60], 0, 0, 0, 0), 6)
	nothing(t, "a commit record's kind and length", framed(1, mixed(50, 1)), 6)
	nothing(t, "a length above 58", checked(append([]byte{2, 255}, mixed(58, 1)...)), 6)
}

// P17.2 (Get): sectors that state a number below 1, for that Seqn itself too.
func TestNumbersBelowOne(t *testing.T) {
	for _, low := range bad() {
		for _, other := range append(good(), bad()...) {
			nothing(t, fmt.Sprint(low, other), sectorOf(low, other), low)
			nothing(t, fmt.Sprint(other, low), sectorOf(other, low), other)
			nothing(t, fmt.Sprint(low, other), sectorOf(low, other), 6)
		}
	}
}

// P17.2 (Get): what is in the cache counts, ahead of what was flushed; Get flushes nothing.
func TestGetCached(t *testing.T) {
	d := holding(t, sectorOf(4, 2))
	do(t, "Write", d.Write(place, sectorOf(4, 9)), api.OK)
	only(t, "cached", d, 4, 9)
	do(t, "Write", d.Write(place, sectorOf(5, 1)), api.OK)
	only(t, "cached, another", d, 5, 1)
	do(t, "Write", d.Write(place, make([]byte, 64)), api.OK)
	only(t, "cached, nothing", d, 4, 0)
	dirty(t, "Get", d, place)
	do(t, "Crash", d.Crash(nil), api.OK)
	do(t, "Start", d.Start(), api.OK)
	only(t, "crashed", d, 4, 2)
}

// P17.2 (Get): no other sector counts.
func TestOtherSectors(t *testing.T) {
	d := made(t, api.Sectors)
	for i := range api.Sectors {
		if i != place {
			do(t, "Write", d.Write(i, sectorOf(4, 7)), api.OK)
		}
	}
	only(t, "others", d, 4, 0)
	nexts(t, "others", d, 4, 1, api.OK)
	only(t, "others", d, 4, 1)
}

// P0.2, P17.2 (Get): the errors, the first of several, and no number beside one, whatever stands on the disk.
func TestGetErrors(t *testing.T) {
	down, both := holding(t, sectorOf(4, 2)), made(t, 2)
	do(t, "Crash", down.Crash(nil), api.OK)
	do(t, "Crash", both.Crash(nil), api.OK)
	for _, seqn := range append(good(), bad()...) {
		gets(t, "nil", nil, seqn, 0, api.ErrNil)
		gets(t, "no disk", new(disk.Disk), seqn, 0, api.ErrNil)
		gets(t, "no sector", made(t, 1), seqn, 0, api.ErrSector)
		gets(t, "no sector", made(t, 2), seqn, 0, api.ErrSector)
		gets(t, "down", down, seqn, 0, api.ErrDown)
		gets(t, "down, no sector", both, seqn, 0, api.ErrDown)
	}
	gets(t, "down", down, 4, 0, api.ErrDown)
	do(t, "Start", down.Start(), api.OK)
	gets(t, "up", down, 4, 2, api.OK)
}

// P17.2 (Get): reading is no operation that an armed disk counts.
func TestGetIsNoOperation(t *testing.T) {
	d := holding(t, sectorOf(4, 2))
	do(t, "Arm", d.Arm(1, nil), api.OK)
	for range 20 {
		gets(t, "armed", d, 4, 2, api.OK)
		gets(t, "armed", d, 5, 0, api.OK)
	}
	do(t, "armed", attempt.Put(d, 4, 3), api.ErrDown)
	gets(t, "crashed", d, 4, 0, api.ErrDown)
	do(t, "Start", d.Start(), api.OK)
	gets(t, "up", d, 4, 2, api.OK)
	gets(t, "up", d, math.MinInt64, 0, api.OK)
}
