package wire_test

import (
	"bytes"
	"encoding/binary"
	"math"
	"testing"

	"citadel/api"
	"citadel/wire"
)

// A call that removes a field, and whether it answered the zero value.
type reading struct {
	kind string
	zero func(r *wire.Reader) bool
}

func readings() []reading {
	return []reading{
		{"byte", func(r *wire.Reader) bool { return r.Byte() == 0 }},
		{"number", func(r *wire.Reader) bool { return r.Int() == 0 }},
		{"flag", func(r *wire.Reader) bool { return !r.Flag() }},
		{"bytes", func(r *wire.Reader) bool { return r.Bytes() == nil }},
		{"text", func(r *wire.Reader) bool { return r.Text() == "" }},
		{"tag", func(r *wire.Reader) bool { return r.Tag() == api.Tag{} }},
		{"count", func(r *wire.Reader) bool { return r.Count(math.MaxInt) == 0 }},
	}
}

// readingOf returns the call for that kind of field.
func readingOf(kind string) reading {
	for _, c := range readings() {
		if c.kind == kind {
			return c
		}
	}
	panic("no such kind: " + kind)
}

// hasFailed holds r to be one that failed with e: whatever is called then, it answers nothing.
func hasFailed(t *testing.T, r *wire.Reader, e api.Errno, what string) {
	t.Helper()
	for _, c := range readings() {
		if r.Err() != e || r.End() != e || r.Left() != 0 {
			t.Errorf("%s: Err = %d, End = %d, Left = %d, want error %d", what, r.Err(), r.End(), r.Left(), e)
		}
		if !c.zero(r) {
			t.Errorf("%s: a reader that has failed returns a %s", what, c.kind)
		}
	}
	if r.Count(-1) != 0 || r.Count(0) != 0 || r.Err() != e {
		t.Errorf("%s: a count, or error %d, want %d", what, r.Err(), e)
	}
}

// P5.2 (NewReader): a reader of no bytes up to as many as an encoding has.
func TestNewReader(t *testing.T) {
	for _, n := range []int{0, 1, 7, 8, 100, 65535, 65536} {
		b := mixed(n, 1)
		r := wire.NewReader(b)
		if r.Left() != n || r.Err() != api.OK {
			t.Errorf("of %d bytes: Left = %d, Err = %d", n, r.Left(), r.Err())
		}
		for i, x := range b {
			if got := r.Byte(); got != x || r.Left() != n-i-1 {
				t.Fatalf("of %d bytes: byte %d is %d, want %d; Left = %d", n, i, got, x, r.Left())
			}
		}
		if r.Err() != api.OK || r.End() != api.OK {
			t.Errorf("of %d bytes: Err = %d, End = %d", n, r.Err(), r.End())
		}
	}
}

// P5.2 (NewReader): one of more bytes has failed from the beginning.
func TestTooLongReader(t *testing.T) {
	for _, n := range []int{65537, 65538, 1 << 17, 1 << 20} {
		hasFailed(t, wire.NewReader(make([]byte, n)), api.ErrLong, "too many zeros")
		hasFailed(t, wire.NewReader(filled(n, 1)), api.ErrLong, "too many ones")
		for _, c := range readings() {
			r := wire.NewReader(filled(n, 1))
			if !c.zero(r) {
				t.Errorf("a reader of %d bytes returns a %s", n, c.kind)
			}
			hasFailed(t, r, api.ErrLong, c.kind)
		}
	}
}

// P5.2 (Reader): each call returns its field's value, be it the last or not, and removes just its bytes.
func TestReaderFields(t *testing.T) {
	for _, f := range fields() {
		for _, behind := range [][]byte{nil, {0}, {255}, mixed(40, 1)} {
			if len(f.form)+len(behind) > most {
				continue
			}
			r := wire.NewReader(append(bytes.Clone(f.form), behind...))
			if !f.got(r) {
				t.Errorf("%s of %d bytes: another value", f.kind, len(f.form))
			}
			if r.Left() != len(behind) || r.Err() != api.OK {
				t.Errorf("%s of %d bytes: Left = %d, want %d; Err = %d", f.kind, len(f.form), r.Left(), len(behind), r.Err())
			}
			for _, x := range behind {
				if got := r.Byte(); got != x {
					t.Errorf("%s of %d bytes: behind it stands %d, want %d", f.kind, len(f.form), got, x)
				}
			}
			if r.End() != api.OK {
				t.Errorf("%s of %d bytes: End = %d", f.kind, len(f.form), r.End())
			}
		}
	}
}

// P5.2 (Reader): a field of which bytes are missing, however many.
func TestCutFields(t *testing.T) {
	for _, f := range fields() {
		step := 1 + len(f.form)/50
		for n := 0; n < len(f.form); n += step {
			cutField(t, f, n)
		}
		cutField(t, f, len(f.form)-1)
	}
}

func cutField(t *testing.T, f field, n int) {
	t.Helper()
	c := readingOf(f.kind)
	r := wire.NewReader(f.form[:n])
	if !c.zero(r) {
		t.Errorf("%d of %d bytes: a %s", n, len(f.form), f.kind)
	}
	hasFailed(t, r, api.ErrWire, f.kind)
	// In the middle of an encoding: what was read ahead of it stays right.
	r = wire.NewReader(append([]byte{5}, f.form[:min(n, most-1)]...))
	if r.Byte() != 5 || !c.zero(r) {
		t.Errorf("behind a byte, %d of %d bytes: a %s", n, len(f.form), f.kind)
	}
	hasFailed(t, r, api.ErrWire, f.kind)
}

// P5.2 (Reader): nothing is left.
func TestNoBytes(t *testing.T) {
	for _, c := range readings() {
		for _, b := range [][]byte{nil, {}} {
			r := wire.NewReader(b)
			if !c.zero(r) {
				t.Errorf("a %s of no bytes", c.kind)
			}
			hasFailed(t, r, api.ErrWire, c.kind)
		}
	}
}

// P5.2 (Flag): a byte above 1 is no flag.
func TestFlagBytes(t *testing.T) {
	for x := range 256 {
		r := wire.NewReader([]byte{byte(x), 1})
		if got := r.Flag(); got != (x == 1) {
			t.Errorf("byte %d: %v", x, got)
		}
		if x > 1 {
			hasFailed(t, r, api.ErrWire, "a flag's byte")
		} else if r.Left() != 1 || r.Err() != api.OK || !r.Flag() {
			t.Errorf("byte %d: Left = %d, Err = %d", x, r.Left(), r.Err())
		}
	}
}

// P5.2 (Bytes, Text): lengths that are too great for what is left, or for any encoding.
func TestLengths(t *testing.T) {
	for _, c := range []struct {
		length uint32
		left   int
	}{
		{1, 0}, {2, 1}, {3, 2}, {256, 1}, {256, 255}, {65532, 65531}, {65533, 65532}, {65535, 65532}, {65536, 65532}, {65537, 65532}, {65536, 0}, {65537, 0},
		{1 << 24, 65532}, {1<<24 + 1, 1}, {1<<31 - 1, 65532}, {1 << 31, 65532}, {1<<32 - 1, 0}, {1<<32 - 1, 65532}, {1<<32 - 4, 65532}, {1<<32 - 5, 65532}, {1<<32 - 65536, 65532},
	} {
		for _, kind := range []string{"bytes", "text"} {
			form := append(binary.BigEndian.AppendUint32(nil, c.length), filled(c.left, 7)...)
			r := wire.NewReader(form)
			if !readingOf(kind).zero(r) {
				t.Errorf("length %d, %d bytes left: a %s", c.length, c.left, kind)
			}
			hasFailed(t, r, api.ErrWire, kind)
		}
	}
}

// P5.2 (Reader): the chapter's examples.
func TestReaderExamples(t *testing.T) {
	r := wire.NewReader([]byte{2})
	if r.Flag() || r.Err() != api.ErrWire {
		t.Errorf("Flag of 2: Err = %d", r.Err())
	}
	for _, b := range [][]byte{{0, 0, 0, 2, 1}, {0, 0, 0, 1}} {
		r = wire.NewReader(b)
		if got := r.Bytes(); len(got) != 0 || r.Err() != api.ErrWire {
			t.Errorf("Bytes of %v: %v, Err = %d", b, got, r.Err())
		}
	}
	r = wire.NewReader([]byte{7, 7})
	if r.Byte() != 7 || r.Left() != 1 || r.Err() != api.OK || r.End() != api.ErrWire {
		t.Errorf("7 7: Left = %d, Err = %d, End = %d", r.Left(), r.Err(), r.End())
	}
}

// P5.3 (Count): the number is from 0 to most, and no greater than the number of bytes behind it.
func TestCount(t *testing.T) {
	for _, c := range []struct {
		n, most, behind int
		ok              bool
	}{
		{3, 5, 3, true}, {3, 5, 2, false}, {3, 5, 4, true}, {3, 3, 3, true}, {3, 2, 3, false}, {3, 2, 9, false}, {5, 5, 5, true}, {6, 5, 9, false},
		{0, 0, 0, true}, {0, 5, 0, true}, {0, 0, 9, true}, {1, 0, 9, false}, {1, 5, 0, false}, {1, 1, 1, true},
		{0, -1, 9, false}, {-1, 5, 9, false}, {-1, -1, 9, false}, {-1, math.MaxInt, 0, false}, {-3, -2, 9, false}, {0, math.MinInt, 9, false}, {math.MinInt, math.MaxInt, 9, false},
		{9, math.MaxInt, 9, true}, {10, math.MaxInt, 9, false}, {math.MaxInt, math.MaxInt, 9, false}, {1 << 32, math.MaxInt, 9, false}, {1<<32 + 1, 5, 9, false}, {256, 256, 256, true},
		{65528, 65528, 65528, true}, {65528, 65527, 65528, false}, {65529, 65529, 65528, false}, {65528, math.MaxInt, 65528, true}, {65536, 65536, 65528, false},
	} {
		r := wire.NewReader(append(binary.BigEndian.AppendUint64(nil, uint64(c.n)), filled(c.behind, 1)...))
		got := r.Count(c.most)
		if c.ok && (got != c.n || r.Err() != api.OK || r.Left() != c.behind) {
			t.Errorf("%d, at most %d, behind it %d: %d, Err = %d, Left = %d", c.n, c.most, c.behind, got, r.Err(), r.Left())
		}
		if !c.ok {
			if got != 0 {
				t.Errorf("%d, at most %d, behind it %d: %d, want 0", c.n, c.most, c.behind, got)
			}
			hasFailed(t, r, api.ErrWire, "count")
		}
	}
}

// P5.3 (Count): bytes of the number are missing.
func TestCutCount(t *testing.T) {
	for n := range 8 {
		for _, most := range []int{-1, 0, 1, 5, math.MaxInt} {
			r := wire.NewReader(make([]byte, n))
			if got := r.Count(most); got != 0 {
				t.Errorf("of %d bytes: %d", n, got)
			}
			hasFailed(t, r, api.ErrWire, "count")
		}
	}
}

// P5.3 (Count): only the bytes behind the number count, not those ahead of it; what stands behind is read then.
func TestCountWithinFields(t *testing.T) {
	form := written(t, wire.NewWriter().Int(7).Int(2).Byte(8).Byte(9))
	r := wire.NewReader(form)
	if r.Int() != 7 || r.Count(2) != 2 || r.Byte() != 8 || r.Byte() != 9 || r.End() != api.OK {
		t.Errorf("a count of 2: End = %d", r.End())
	}
	r = wire.NewReader(written(t, wire.NewWriter().Int(7).Int(3).Byte(8).Byte(9)))
	if r.Int() != 7 || r.Count(9) != 0 {
		t.Error("a count of more than stands behind it")
	}
	hasFailed(t, r, api.ErrWire, "count")
}

// P5.3 (Left), P5.4 (Err, End): while fields are removed, and at the end.
func TestLeftErrEnd(t *testing.T) {
	form := written(t, wire.NewWriter().Byte(5).Int(-2).Flag(true).Text("hi").Bytes(nil).Tag(api.Tag{3: 3}).Int(0))
	r := wire.NewReader(form)
	sizes := []int{1, 8, 1, 6, 4, 32}
	left := len(form)
	for i, f := range []field{byteField(5), intField(-2), flagField(true), textField("hi"), bytesField(nil), tagField(api.Tag{3: 3})} {
		if !f.got(r) {
			t.Errorf("%s: another value", f.kind)
		}
		left -= sizes[i]
		for range 2 {
			if r.Left() != left || r.Err() != api.OK || r.End() != api.ErrWire {
				t.Errorf("behind a %s: Left = %d, want %d; Err = %d, End = %d", f.kind, r.Left(), left, r.Err(), r.End())
			}
		}
	}
	if n := r.Count(0); n != 0 || r.Left() != 0 || r.Err() != api.OK || r.End() != api.OK {
		t.Errorf("at the end: Left = %d, Err = %d, End = %d", r.Left(), r.Err(), r.End())
	}
	r.Byte()
	hasFailed(t, r, api.ErrWire, "behind the end")
}

// P5.4 (End): of a reader of no bytes, and of one whose bytes nobody has read.
func TestEndUnread(t *testing.T) {
	for _, c := range []struct {
		n    int
		want api.Errno
	}{{0, api.OK}, {1, api.ErrWire}, {65536, api.ErrWire}, {65537, api.ErrLong}} {
		if got := wire.NewReader(make([]byte, c.n)).End(); got != c.want {
			t.Errorf("of %d bytes: End = %d, want %d", c.n, got, c.want)
		}
	}
}
