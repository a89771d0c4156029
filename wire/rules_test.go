package wire_test

import (
	"bytes"
	"math"
	"testing"

	"citadel/api"
	"citadel/wire"
)

// P0.1 (Writer): each call on a nil writer, and on one that NewWriter did not create, returns that writer; Done returns ErrNil.
func TestNoWriter(t *testing.T) {
	var empty wire.Writer
	for _, w := range []*wire.Writer{nil, {}, new(wire.Writer), &empty} {
		for _, f := range append(fields(), bytesField(make([]byte, 70000)), textField(string(make([]byte, 70000)))) {
			if f.put(w) != w {
				t.Errorf("%s: another writer is returned", f.kind)
			}
			if form, e := w.Done(); form != nil || e != api.ErrNil {
				t.Errorf("behind a %s: Done = %v, %d, want ErrNil", f.kind, form, e)
			}
		}
	}
}

// P0.1 (Reader): the calls on a nil reader, and on one that NewReader did not create, return zero values, and ErrNil.
func TestNoReader(t *testing.T) {
	var empty wire.Reader
	for _, r := range []*wire.Reader{nil, {}, new(wire.Reader), &empty} {
		hasFailed(t, r, api.ErrNil, "no reader")
	}
}

// P0.1: every call returns, whatever it is given.
func TestAllArguments(t *testing.T) {
	for _, most := range []int{math.MinInt, -1, 0, 1, 65536, math.MaxInt - 8, math.MaxInt} {
		for _, x := range []byte{0, 1, 0x7f, 0x80, 0xff} {
			for n := range 20 {
				r := wire.NewReader(filled(n, x))
				if got := r.Count(most); got < 0 || got > n {
					t.Errorf("%d times %d: Count(%d) = %d", n, x, most, got)
				}
			}
		}
	}
	for _, c := range readings() {
		for x := range 256 {
			for n := range 40 {
				r := wire.NewReader(filled(n, byte(x)))
				for range 3 {
					c.zero(r)
				}
				if left := r.Left(); left < 0 || left > n {
					t.Errorf("%s of %d times %d: Left = %d", c.kind, n, x, left)
				}
			}
		}
	}
}

// P0.2: beside an error stands the zero value; of a reader's errors the one that it failed with first counts.
func TestFirstError(t *testing.T) {
	r := wire.NewReader(append([]byte{2}, make([]byte, most)...))
	r.Flag()
	hasFailed(t, r, api.ErrLong, "too long, and no flag")
	r = wire.NewReader([]byte{2, 1})
	r.Flag()
	if r.End() != api.ErrWire || r.Err() != api.ErrWire {
		t.Errorf("End = %d, Err = %d", r.End(), r.Err())
	}
}

// P0.3: calls that answer an error, without failing themselves, change nothing.
func TestAskingChangesNothing(t *testing.T) {
	r := wire.NewReader([]byte{1, 0, 0, 0, 1, 9})
	ask := func(left int) {
		t.Helper()
		for range 3 {
			if r.End() != api.ErrWire || r.Err() != api.OK || r.Left() != left {
				t.Errorf("End = %d, Err = %d, Left = %d, want %d", r.End(), r.Err(), r.Left(), left)
			}
		}
	}
	ask(6)
	if !r.Flag() {
		t.Error("another flag")
	}
	ask(5)
	if got := r.Bytes(); !bytes.Equal(got, []byte{9}) || r.End() != api.OK {
		t.Errorf("%v, End = %d", got, r.End())
	}
}

// P0.3: one writer's or reader's failure is not another's.
func TestFailuresApart(t *testing.T) {
	w := wire.NewWriter().Byte(1)
	r := wire.NewReader([]byte{1, 2})
	wire.NewWriter().Bytes(make([]byte, 70000)).Done()
	wire.NewReader(nil).Byte()
	wire.NewReader(make([]byte, 70000)).Byte()
	if form := written(t, w.Byte(2)); !bytes.Equal(form, []byte{1, 2}) {
		t.Errorf("Done = %v", form)
	}
	if r.Byte() != 1 || r.Byte() != 2 || r.End() != api.OK {
		t.Errorf("End = %d", r.End())
	}
}

// P0.4 (Writer.Bytes): what is passed is neither changed, nor what lies beyond its length, nor kept.
func TestBytesPassedToWriter(t *testing.T) {
	for _, n := range []int{0, 1, 4, 100, 1000} {
		whole := filled(n+40, 9)
		w := wire.NewWriter().Bytes(whole[4 : 4+n])
		want := append(bytesField(filled(n, 9)).form, 5)
		w.Byte(5)
		written(t, w)
		if !bytes.Equal(whole, filled(n+40, 9)) {
			t.Errorf("%d bytes: changed what was passed", n)
		}
		clear(whole)
		if got := written(t, w); !bytes.Equal(got, want) {
			t.Errorf("%d bytes: keeps what was passed", n)
		}
	}
	whole := make([]byte, 70000)
	whole[69999] = 1
	wire.NewWriter().Bytes(whole[:69999]).Done()
	if whole[69999] != 1 || !bytes.Equal(whole[:69999], make([]byte, 69999)) {
		t.Error("a writer that fails changed what was passed")
	}
}

// P0.4 (Done): what is returned is the caller's own, with what lies beyond its length.
func TestDoneIsNew(t *testing.T) {
	for _, n := range []int{1, 3, 8, 9, 100, 65530} {
		w := grown(n)
		first, second := written(t, w), written(t, w)
		want := bytes.Clone(second)
		spoil(first)
		if !bytes.Equal(second, want) {
			t.Errorf("%d bytes: two answers share memory", n)
		}
		w.Byte(5)
		if !bytes.Equal(first, filled(len(first), 99)) || !bytes.Equal(first[:cap(first)], filled(cap(first), 99)) {
			t.Errorf("%d bytes: a later field is written into an answer", n)
		}
		spoil(first)
		spoil(second)
		if got := written(t, w); !bytes.Equal(got, append(want, 5)) {
			t.Errorf("%d bytes: an answer is the writer's own memory", n)
		}
	}
}

// P0.4 (NewReader): what is passed is neither changed, nor what lies beyond its length, nor kept.
func TestBytesPassedToReader(t *testing.T) {
	form := written(t, wire.NewWriter().Byte(1).Bytes([]byte{7, 8, 9}).Text("hi").Tag(api.Tag{1: 1}).Int(4).Flag(true).Int(0))
	whole := append(append(filled(3, 5), form...), filled(30, 5)...)
	passed := bytes.Clone(whole)
	read := func(r *wire.Reader) bool {
		return r.Byte() == 1 && bytes.Equal(r.Bytes(), []byte{7, 8, 9}) && r.Text() == "hi" && r.Tag() == api.Tag{1: 1} && r.Int() == 4 && r.Flag() && r.Count(5) == 0 && r.End() == api.OK
	}
	part := whole[3 : 3+len(form)]
	if r := wire.NewReader(part); !read(r) || r.Byte() != 0 || r.Err() != api.ErrWire {
		t.Errorf("error %d", r.Err())
	}
	if !bytes.Equal(whole, passed) {
		t.Errorf("changed what was passed: %v", whole)
	}
	r := wire.NewReader(part)
	clear(whole)
	if !read(r) {
		t.Errorf("keeps what was passed: error %d", r.Err())
	}
}

// P0.4 (Reader.Bytes): what is returned is the caller's own, with what lies beyond its length.
func TestBytesReadAreNew(t *testing.T) {
	for _, n := range []int{0, 1, 7, 100, 1000} {
		form := written(t, wire.NewWriter().Bytes(mixed(n, 1)).Bytes(mixed(n, 2)).Text("hi"))
		passed := bytes.Clone(form)
		r, other := wire.NewReader(form), wire.NewReader(form)
		first := r.Bytes()
		spoil(first)
		if !bytes.Equal(form, passed) {
			t.Errorf("%d bytes: an answer is a part of what was passed", n)
		}
		second := r.Bytes()
		if !bytes.Equal(second, mixed(n, 2)) || r.Text() != "hi" || r.End() != api.OK {
			t.Errorf("%d bytes: an answer reaches into what is read later", n)
		}
		spoil(second)
		if !bytes.Equal(first, filled(n, 99)) || !bytes.Equal(other.Bytes(), mixed(n, 1)) || !bytes.Equal(other.Bytes(), mixed(n, 2)) {
			t.Errorf("%d bytes: two answers share memory", n)
		}
	}
}

// spoil writes over a slice and what lies beyond its length.
func spoil(b []byte) {
	b = b[:cap(b)]
	for i := range b {
		b[i] = 99
	}
}

// P0.4: nil and empty slices are equivalent.
func TestNilIsEmpty(t *testing.T) {
	if a, b := written(t, wire.NewWriter().Bytes(nil)), written(t, wire.NewWriter().Bytes([]byte{})); !bytes.Equal(a, b) {
		t.Errorf("nil and empty bytes: %v, %v", a, b)
	}
	for _, b := range [][]byte{nil, {}} {
		r := wire.NewReader(b)
		if r.Left() != 0 || r.Err() != api.OK || r.End() != api.OK {
			t.Errorf("Left = %d, Err = %d, End = %d", r.Left(), r.Err(), r.End())
		}
	}
}
