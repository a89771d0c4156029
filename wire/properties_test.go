package wire_test

import (
	"bytes"
	"math/rand"
	"testing"

	"citadel/api"
	"citadel/wire"
)

// anyField returns a field of any kind and value, the same for the same state of from.
func anyField(from *rand.Rand) field {
	short := mixed(from.Intn(40), from.Uint32())
	switch from.Intn(6) {
	case 0:
		return byteField(byte(from.Uint32()))
	case 1:
		return intField(int(from.Uint64()) >> from.Intn(64))
	case 2:
		return flagField(from.Intn(2) == 1)
	case 3:
		return bytesField(short)
	case 4:
		return textField(string(short))
	default:
		return tagField(api.Tag(mixed(32, from.Uint32())))
	}
}

// P5.5 (decoding in order)
func TestDecodingInOrder(t *testing.T) {
	from := rand.New(rand.NewSource(5))
	for range 400 {
		var l []field
		w := wire.NewWriter()
		for range from.Intn(30) {
			f := anyField(from)
			f.put(w)
			l = append(l, f)
		}
		form := written(t, w)
		for _, behind := range [][]byte{nil, mixed(1+from.Intn(20), 1)} {
			r := wire.NewReader(append(bytes.Clone(form), behind...))
			for i, f := range l {
				if !f.got(r) || r.Err() != api.OK {
					t.Fatalf("field %d of %d, a %s: another value, or error %d", i, len(l), f.kind, r.Err())
				}
			}
			if r.Left() != len(behind) || r.Err() != api.OK || (r.End() == api.OK) != (len(behind) == 0) {
				t.Fatalf("Left = %d, want %d; Err = %d, End = %d", r.Left(), len(behind), r.Err(), r.End())
			}
			for _, x := range behind {
				if got := r.Byte(); got != x {
					t.Fatalf("behind the fields stands %d, want %d", got, x)
				}
			}
		}
	}
}

// P5.5 (decoding in order): of each two fields, edges among them.
func TestPairsInOrder(t *testing.T) {
	for _, f := range fields() {
		for _, g := range fields() {
			if len(f.form)+len(g.form) > most {
				continue
			}
			r := wire.NewReader(written(t, g.put(f.put(wire.NewWriter()))))
			if !f.got(r) || !g.got(r) || r.End() != api.OK {
				t.Errorf("a %s of %d bytes and a %s of %d: End = %d", f.kind, len(f.form), g.kind, len(g.form), r.End())
			}
		}
	}
}

// reread removes a field of some kind from r, and appends it to w.
func reread(kind int, r *wire.Reader, w *wire.Writer) {
	switch kind {
	case 0:
		w.Byte(r.Byte())
	case 1:
		w.Int(r.Int())
	case 2:
		w.Flag(r.Flag())
	case 3:
		w.Bytes(r.Bytes())
	case 4:
		w.Text(r.Text())
	case 5:
		w.Tag(r.Tag())
	default:
		w.Int(r.Count(1 << 20))
	}
}

// P5.6 (unique encoding): whatever the bytes are and whatever they are read as.
func TestUniqueEncoding(t *testing.T) {
	from := rand.New(rand.NewSource(6))
	for range 3000 {
		b := make([]byte, from.Intn(120))
		for i := range b {
			if from.Intn(3) == 0 { // few of the others are ones, so that flags and lengths are met
				b[i] = byte(from.Intn(4))
			}
			if from.Intn(8) == 0 {
				b[i] = byte(from.Uint32())
			}
		}
		r, w := wire.NewReader(b), wire.NewWriter()
		for r.End() == api.ErrWire && r.Err() == api.OK {
			before := written(t, w)
			reread(from.Intn(7), r, w)
			if r.Err() != api.OK {
				if !bytes.Equal(before, b[:len(before)]) {
					t.Fatalf("%v: %v", b, before)
				}
				break
			}
			if got := written(t, w); len(got)+r.Left() != len(b) || !bytes.Equal(got, b[:len(got)]) {
				t.Fatalf("%v: %v, and %d bytes left", b, got, r.Left())
			}
		}
	}
}

// P5.6 (unique encoding): of the longest fields.
func TestUniqueEncodingOfLongFields(t *testing.T) {
	for _, f := range fields() {
		for kind := range 7 {
			r, w := wire.NewReader(f.form), wire.NewWriter()
			reread(kind, r, w)
			if r.Err() != api.OK {
				continue
			}
			if got := written(t, w); !bytes.Equal(got, f.form[:len(f.form)-r.Left()]) {
				t.Errorf("a %s of %d bytes read as kind %d: %d other bytes", f.kind, len(f.form), kind, len(got))
			}
		}
	}
}

// P5.7 (failure is permanent): a writer that has failed appends nothing more, also what would have had room.
func TestFailedWriter(t *testing.T) {
	for n := range 4 {
		w := grown(most - n)
		w.Bytes(make([]byte, n))
		for range 2 {
			if form, e := w.Done(); form != nil || e != api.ErrLong {
				t.Errorf("%d bytes of room: Done = %d bytes, %d, want ErrLong", n, len(form), e)
			}
		}
		for _, f := range fields() {
			if f.put(w) != w {
				t.Errorf("%s: another writer is returned", f.kind)
			}
			if form, e := w.Done(); form != nil || e != api.ErrLong {
				t.Errorf("%d bytes of room, then a %s: Done = %d bytes, %d, want ErrLong", n, f.kind, len(form), e)
			}
		}
	}
	w := wire.NewWriter().Bytes(make([]byte, 65533)).Byte(1)
	if form, e := w.Done(); form != nil || e != api.ErrLong {
		t.Errorf("failed at once: Done = %v, %d, want ErrLong", form, e)
	}
}

// P5.7 (failure is permanent): a reader that has failed returns nothing more, also what is there.
func TestFailedReader(t *testing.T) {
	for _, c := range []struct {
		kind string
		b    []byte
	}{
		{"number", filled(7, 1)}, {"flag", []byte{2, 1, 1, 1, 1, 1, 1, 1, 1}}, {"bytes", []byte{0, 0, 0, 9, 1, 1, 1, 1, 1, 1, 1, 1}}, {"bytes", []byte{1, 0, 0}},
		{"text", append([]byte{0, 1, 0, 1}, filled(100, 1)...)}, {"tag", filled(31, 1)}, {"count", filled(40, 1)}, {"count", append(make([]byte, 7), filled(9, 9)...)},
	} {
		r := wire.NewReader(c.b)
		if !readingOf(c.kind).zero(r) {
			t.Errorf("%v: a %s", c.b, c.kind)
		}
		hasFailed(t, r, api.ErrWire, c.kind)
		hasFailed(t, r, api.ErrWire, c.kind+", again")
	}
	r := wire.NewReader(filled(40, 1))
	if r.Int() != 0x0101010101010101 || r.Count(5) != 0 {
		t.Error("40 ones: another number, or a count")
	}
	hasFailed(t, r, api.ErrWire, "in the middle")
}
