package wire_test

import (
	"bytes"
	"encoding/binary"
	"math"
	"strings"
	"testing"

	"citadel/api"
	"citadel/wire"
)

const most = 65536 // bytes of an encoding, as the chapter has it

// A field of some kind: its bytes, how it is appended, and whether a reader's next field of this kind has this value.
type field struct {
	kind string
	form []byte
	put  func(w *wire.Writer) *wire.Writer
	got  func(r *wire.Reader) bool
}

func byteField(x byte) field {
	return field{"byte", []byte{x},
		func(w *wire.Writer) *wire.Writer { return w.Byte(x) },
		func(r *wire.Reader) bool { return r.Byte() == x }}
}

func intField(n int) field {
	return field{"number", binary.BigEndian.AppendUint64(nil, uint64(n)),
		func(w *wire.Writer) *wire.Writer { return w.Int(n) },
		func(r *wire.Reader) bool { return r.Int() == n }}
}

func flagField(is bool) field {
	form := []byte{0}
	if is {
		form[0] = 1
	}
	return field{"flag", form,
		func(w *wire.Writer) *wire.Writer { return w.Flag(is) },
		func(r *wire.Reader) bool { return r.Flag() == is }}
}

func bytesField(b []byte) field {
	return field{"bytes", append(binary.BigEndian.AppendUint32(nil, uint32(len(b))), b...),
		func(w *wire.Writer) *wire.Writer { return w.Bytes(b) },
		func(r *wire.Reader) bool { return bytes.Equal(r.Bytes(), b) }}
}

func textField(s string) field {
	return field{"text", append(binary.BigEndian.AppendUint32(nil, uint32(len(s))), s...),
		func(w *wire.Writer) *wire.Writer { return w.Text(s) },
		func(r *wire.Reader) bool { return r.Text() == s }}
}

func tagField(t api.Tag) field {
	return field{"tag", bytes.Clone(t[:]),
		func(w *wire.Writer) *wire.Writer { return w.Tag(t) },
		func(r *wire.Reader) bool { return r.Tag() == t }}
}

// fields: ordinary ones of all kinds, and the edges of each.
func fields() []field {
	l := []field{
		byteField(0), byteField(1), byteField(9), byteField(128), byteField(255), flagField(true), flagField(false),
		bytesField(nil), bytesField([]byte{}), bytesField([]byte{0}), bytesField([]byte{8, 9}), bytesField(mixed(255, 1)), bytesField(mixed(256, 2)), bytesField(mixed(1000, 3)), bytesField(mixed(65531, 4)), bytesField(mixed(65532, 5)),
		textField(""), textField("\x00"), textField("hi"), textField("zwölf \U0001F680"), textField("\xff\xc0 no text"), textField(strings.Repeat("a", 257)), textField(strings.Repeat("ab", 32766)),
		tagField(api.Tag{}), tagField(api.Tag{0: 1}), tagField(api.Tag{31: 4}), tagField(api.Tag(mixed(32, 6))),
	}
	for _, n := range []int{0, 1, -1, -2, 2, 255, 256, 513, 65536, -256, 0x0102030405060708, math.MaxInt32, math.MinInt32, math.MaxUint32, math.MaxInt64, math.MaxInt64 - 1, math.MinInt64, math.MinInt64 + 1} {
		l = append(l, intField(n))
	}
	return l
}

// mixed returns n bytes without a plain pattern, others for another start.
func mixed(n int, start uint32) []byte {
	b := make([]byte, n)
	x := start*2654435761 + 12345
	for i := range b {
		x = x*1664525 + 1013904223
		b[i] = byte(x >> 24)
	}
	return b
}

func filled(n int, x byte) []byte { return bytes.Repeat([]byte{x}, n) }

// written returns the encoding of w, which must not have failed.
func written(t *testing.T, w *wire.Writer) []byte {
	t.Helper()
	form, e := w.Done()
	if e != api.OK {
		t.Fatalf("Done returns error %d", e)
	}
	return form
}

// grown returns a writer whose encoding has n bytes.
func grown(n int) *wire.Writer {
	w := wire.NewWriter()
	if n >= 4 {
		return w.Bytes(mixed(n-4, 1))
	}
	for range n {
		w.Byte(7)
	}
	return w
}

// P5.1 (NewWriter): an empty encoding; each writer has its own.
func TestNewWriter(t *testing.T) {
	w := wire.NewWriter()
	if form, e := w.Done(); len(form) != 0 || e != api.OK {
		t.Errorf("Done = %v, %d", form, e)
	}
	other := wire.NewWriter().Byte(1)
	if form := written(t, w.Byte(2)); !bytes.Equal(form, []byte{2}) {
		t.Errorf("the first writer has %v", form)
	}
	if form := written(t, other); !bytes.Equal(form, []byte{1}) {
		t.Errorf("the second writer has %v", form)
	}
	if form := written(t, wire.NewWriter()); len(form) != 0 {
		t.Errorf("a third writer has %v", form)
	}
}

// P5.1 (Writer): the chapter's examples.
func TestWriterExamples(t *testing.T) {
	for i, c := range []struct {
		w    *wire.Writer
		want []byte
	}{
		{wire.NewWriter().Byte(5).Flag(true).Flag(false).Int(-2), []byte{5, 1, 0, 255, 255, 255, 255, 255, 255, 255, 254}},
		{wire.NewWriter().Flag(true).Byte(9).Int(513), []byte{1, 9, 0, 0, 0, 0, 0, 0, 2, 1}},
		{wire.NewWriter().Int(-1).Text("hi").Bytes(nil), []byte{255, 255, 255, 255, 255, 255, 255, 255, 0, 0, 0, 2, 104, 105, 0, 0, 0, 0}},
	} {
		if got := written(t, c.w); !bytes.Equal(got, c.want) {
			t.Errorf("example %d: %v, want %v", i, got, c.want)
		}
	}
}

// P5.1 (Writer): each call appends its field's bytes, behind nothing and behind others, and returns the writer.
func TestWriterFields(t *testing.T) {
	for _, f := range fields() {
		w := wire.NewWriter()
		if f.put(w) != w {
			t.Errorf("%s: another writer is returned", f.kind)
		}
		if got := written(t, w); !bytes.Equal(got, f.form) {
			t.Errorf("%s: %x, want %x", f.kind, got, f.form)
		}
		if len(f.form)+8 > most {
			continue
		}
		w = wire.NewWriter().Int(5)
		if got, want := written(t, f.put(w)), append(intField(5).form, f.form...); !bytes.Equal(got, want) {
			t.Errorf("%s behind a number: %x, want %x", f.kind, got, want)
		}
	}
	for x := range 256 {
		if got := written(t, wire.NewWriter().Byte(byte(x))); !bytes.Equal(got, []byte{byte(x)}) {
			t.Errorf("byte %d: %v", x, got)
		}
	}
}

// P5.1 (Writer): a field that ends with the encoding's last byte is appended, one that ends a byte behind it is not.
func TestLongestEncoding(t *testing.T) {
	for _, f := range fields() {
		before := most - len(f.form)
		w := grown(before)
		want := append(written(t, w), f.form...)
		if got := written(t, f.put(w)); len(got) != most || !bytes.Equal(got, want) {
			t.Errorf("%s behind %d bytes: %d bytes", f.kind, before, len(got))
		}
		for _, more := range []int{1, 2, 3} {
			if before+more > most {
				continue
			}
			w = grown(before + more)
			if f.put(w) != w {
				t.Errorf("%s behind %d bytes: another writer is returned", f.kind, before+more)
			}
			if got, e := w.Done(); got != nil || e != api.ErrLong {
				t.Errorf("%s behind %d bytes: Done = %d bytes, %d, want ErrLong", f.kind, before+more, len(got), e)
			}
		}
	}
}

// P5.1 (Writer): bytes and text that are too many on their own.
func TestTooLongFields(t *testing.T) {
	for _, n := range []int{65533, 65534, 65535, 65536, 65537, 1 << 17, 1 << 24} {
		b := make([]byte, n)
		for i, w := range []*wire.Writer{wire.NewWriter().Bytes(b), wire.NewWriter().Text(string(b)), wire.NewWriter().Byte(1).Bytes(b)} {
			if got, e := w.Done(); got != nil || e != api.ErrLong {
				t.Errorf("%d bytes, way %d: Done = %d bytes, %d, want ErrLong", n, i, len(got), e)
			}
		}
	}
}

// P5.1 (Writer): an encoding of very many small fields.
func TestManyFields(t *testing.T) {
	w := wire.NewWriter()
	for i := range most {
		w.Byte(byte(i))
	}
	form := written(t, w)
	if len(form) != most {
		t.Fatalf("%d bytes", len(form))
	}
	r := wire.NewReader(form)
	for i := range most {
		if form[i] != byte(i) || r.Byte() != byte(i) {
			t.Fatalf("byte %d is %d", i, form[i])
		}
	}
	if r.End() != api.OK {
		t.Errorf("End = %d", r.End())
	}
	if _, e := w.Flag(false).Done(); e != api.ErrLong {
		t.Errorf("one byte more: error %d", e)
	}
}

// P5.1 (Done): the example of the chapter; what is returned is the encoding so far, and further fields are appended to it.
func TestDone(t *testing.T) {
	w := wire.NewWriter().Bytes(make([]byte, 65532))
	if form, e := w.Done(); len(form) != 65536 || e != api.OK {
		t.Errorf("Done = %d bytes, %d", len(form), e)
	}
	if form, e := w.Byte(1).Done(); form != nil || e != api.ErrLong {
		t.Errorf("one byte more: Done = %d bytes, %d, want ErrLong", len(form), e)
	}
	w = wire.NewWriter()
	var want []byte
	for _, f := range []field{byteField(5), intField(-1), textField("hi"), flagField(true), bytesField(nil)} {
		want = append(want, f.form...)
		f.put(w)
		for range 2 {
			if form := written(t, w); !bytes.Equal(form, want) {
				t.Errorf("Done = %v, want %v", form, want)
			}
		}
	}
}
