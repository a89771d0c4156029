package words_test

import (
	"bytes"
	"math"
	"testing"

	"citadel/words"
)

func filled(n int, x byte) []byte { return bytes.Repeat([]byte{x}, n) }

// P1.1 (Row)
func TestRow(t *testing.T) {
	for _, c := range []struct {
		x    uint64
		n    int
		want []byte
	}{
		{258, 3, []byte{0, 1, 2}},
		{258, 2, []byte{1, 2}},
		{258, 1, []byte{2}},
		{256, 1, []byte{0}},
		{0, 1, []byte{0}},
		{0, 8, filled(8, 0)},
		{5, 8, []byte{0, 0, 0, 0, 0, 0, 0, 5}},
		{0x0102030405060708, 8, []byte{1, 2, 3, 4, 5, 6, 7, 8}},
		{0x0102030405060708, 7, []byte{2, 3, 4, 5, 6, 7, 8}},
		{0x0102030405060708, 4, []byte{5, 6, 7, 8}},
		{math.MaxUint64, 1, filled(1, 255)},
		{math.MaxUint64, 8, filled(8, 255)},
		{1 << 63, 8, []byte{128, 0, 0, 0, 0, 0, 0, 0}},
		{1 << 63, 7, filled(7, 0)},
	} {
		if got := words.Row(c.x, c.n); !bytes.Equal(got, c.want) {
			t.Errorf("Row(%d, %d) = %v, want %v", c.x, c.n, got, c.want)
		}
	}
	for _, n := range []int{math.MinInt, -8, -1, 0, 9, 64, math.MaxInt} {
		if got := words.Row(5, n); got != nil {
			t.Errorf("Row(5, %d) = %v, want nil", n, got)
		}
	}
}

// P1.1 (Number)
func TestNumber(t *testing.T) {
	for _, c := range []struct {
		row  []byte
		want uint64
	}{
		{[]byte{0}, 0},
		{[]byte{255}, 255},
		{[]byte{0, 0}, 0},
		{[]byte{1, 0}, 256},
		{[]byte{0, 1, 2}, 258},
		{[]byte{1, 2, 3, 4, 5, 6, 7}, 0x01020304050607},
		{[]byte{1, 2, 3, 4, 5, 6, 7, 8}, 0x0102030405060708},
		{[]byte{0, 0, 0, 0, 0, 0, 0, 5}, 5},
		{[]byte{128, 0, 0, 0, 0, 0, 0, 0}, 1 << 63},
		{filled(8, 255), math.MaxUint64},
	} {
		if got, ok := words.Number(c.row); got != c.want || !ok {
			t.Errorf("Number(%v) = %d, %v, want %d, true", c.row, got, ok, c.want)
		}
	}
	for _, row := range [][]byte{nil, {}, filled(9, 0), filled(9, 1), filled(100, 255)} {
		if got, ok := words.Number(row); got != 0 || ok {
			t.Errorf("Number of %d bytes = %d, %v, want 0, false", len(row), got, ok)
		}
	}
}

// P1.2 (Put32, Put64)
func TestPut(t *testing.T) {
	for _, c := range []struct {
		x    uint32
		want []byte
	}{
		{0x01020304, []byte{1, 2, 3, 4}},
		{0, []byte{0, 0, 0, 0}},
		{1, []byte{0, 0, 0, 1}},
		{1 << 31, []byte{128, 0, 0, 0}},
		{math.MaxUint32, filled(4, 255)},
	} {
		if got := words.Put32(c.x); !bytes.Equal(got, c.want) {
			t.Errorf("Put32(%d) = %v, want %v", c.x, got, c.want)
		}
	}
	for _, c := range []struct {
		x    uint64
		want []byte
	}{
		{0x0102030405060708, []byte{1, 2, 3, 4, 5, 6, 7, 8}},
		{0, filled(8, 0)},
		{1, []byte{0, 0, 0, 0, 0, 0, 0, 1}},
		{1 << 32, []byte{0, 0, 0, 1, 0, 0, 0, 0}},
		{1 << 63, []byte{128, 0, 0, 0, 0, 0, 0, 0}},
		{math.MaxUint64, filled(8, 255)},
	} {
		if got := words.Put64(c.x); !bytes.Equal(got, c.want) {
			t.Errorf("Put64(%d) = %v, want %v", c.x, got, c.want)
		}
	}
}

// P1.2 (Load32, Load64)
func TestLoad(t *testing.T) {
	b := []byte{1, 2, 3, 4, 5, 6, 7, 8, 9}
	for at, want := range []uint32{0x01020304, 0x02030405, 0x03040506, 0x04050607, 0x05060708, 0x06070809} {
		if got, ok := words.Load32(b, at); got != want || !ok {
			t.Errorf("Load32 at %d = %x, %v, want %x, true", at, got, ok, want)
		}
	}
	for at, want := range []uint64{0x0102030405060708, 0x0203040506070809} {
		if got, ok := words.Load64(b, at); got != want || !ok {
			t.Errorf("Load64 at %d = %x, %v, want %x, true", at, got, ok, want)
		}
	}
	if got, ok := words.Load32([]byte{9, 0, 0, 1, 0}, 1); got != 256 || !ok {
		t.Errorf("Load32 = %d, %v, want 256, true", got, ok)
	}
	if got, ok := words.Load32(filled(4, 255), 0); got != math.MaxUint32 || !ok {
		t.Errorf("Load32 of four bytes 255 = %d, %v", got, ok)
	}
	if got, ok := words.Load64(filled(8, 255), 0); got != math.MaxUint64 || !ok {
		t.Errorf("Load64 of eight bytes 255 = %d, %v", got, ok)
	}
}

// P1.2 (Load32, Load64): no number starts there.
func TestLoadOutside(t *testing.T) {
	far := []int{math.MinInt, math.MinInt + 8, -9, -8, -4, -1, 9, 10, math.MaxInt - 8, math.MaxInt - 4, math.MaxInt - 3, math.MaxInt}
	for n := range 10 {
		// The bytes beyond the length must not be taken for bytes of b.
		b := filled(32, 7)[:n]
		places := append([]int{}, far...)
		for at := max(0, n-7); at <= n; at++ {
			places = append(places, at)
		}
		for _, at := range places {
			if got, ok := words.Load32(b, at); (at < 0 || at > n-4) && (got != 0 || ok) {
				t.Errorf("Load32 of %d bytes at %d = %d, %v, want 0, false", n, at, got, ok)
			}
			if got, ok := words.Load64(b, at); (at < 0 || at > n-8) && (got != 0 || ok) {
				t.Errorf("Load64 of %d bytes at %d = %d, %v, want 0, false", n, at, got, ok)
			}
		}
	}
	for _, at := range []int{-1, 0, 1, math.MaxInt} {
		if got, ok := words.Load32(nil, at); got != 0 || ok {
			t.Errorf("Load32 of nil at %d = %d, %v", at, got, ok)
		}
		if got, ok := words.Load64(nil, at); got != 0 || ok {
			t.Errorf("Load64 of nil at %d = %d, %v", at, got, ok)
		}
	}
}

// P1.3 (Cat)
func TestCat(t *testing.T) {
	for _, c := range []struct {
		l    [][]byte
		want []byte
	}{
		{nil, nil},
		{[][]byte{}, nil},
		{[][]byte{nil}, nil},
		{[][]byte{nil, {}, nil}, nil},
		{[][]byte{{1}}, []byte{1}},
		{[][]byte{{1}, nil, {2}}, []byte{1, 2}},
		{[][]byte{{1}, {}, {2}}, []byte{1, 2}},
		{[][]byte{{3, 2}, {1}, {0, 255}}, []byte{3, 2, 1, 0, 255}},
		{[][]byte{{2}, {1}, {2}}, []byte{2, 1, 2}},
	} {
		if got := words.Cat(c.l...); !bytes.Equal(got, c.want) {
			t.Errorf("Cat(%v) = %v, want %v", c.l, got, c.want)
		}
	}
	b := []byte{1, 2, 3}
	if got := words.Cat(b, b[1:], b[:1]); !bytes.Equal(got, []byte{1, 2, 3, 2, 3, 1}) {
		t.Errorf("Cat of parts of one slice = %v", got)
	}
}

// P1.3 (Cut)
func TestCut(t *testing.T) {
	b := []byte{1, 2, 3, 4, 5}
	for _, c := range []struct {
		b    []byte
		n    int
		want [][]byte
	}{
		{b, 1, [][]byte{{1}, {2}, {3}, {4}, {5}}},
		{b, 2, [][]byte{{1, 2}, {3, 4}, {5}}},
		{b[:4], 2, [][]byte{{1, 2}, {3, 4}}},
		{b, 4, [][]byte{{1, 2, 3, 4}, {5}}},
		{b, 5, [][]byte{b}},
		{b, 6, [][]byte{b}},
		{b, math.MaxInt, [][]byte{b}},
		{b[:1], 1, [][]byte{{1}}},
		{b, 0, nil},
		{b, -1, nil},
		{b, math.MinInt, nil},
		{nil, 3, nil},
		{[]byte{}, 1, nil},
		{nil, 0, nil},
		{nil, math.MaxInt, nil},
	} {
		got := words.Cut(c.b, c.n)
		if !samePieces(got, c.want) {
			t.Errorf("Cut(%v, %d) = %v, want %v", c.b, c.n, got, c.want)
		}
	}
}

func samePieces(a, b [][]byte) bool {
	if len(a) != len(b) {
		return false
	}
	for i := range a {
		if !bytes.Equal(a[i], b[i]) {
			return false
		}
	}
	return true
}

// P1.3 (Padded)
func TestPadded(t *testing.T) {
	const most = 65536
	for _, c := range []struct {
		b    []byte
		n    int
		want []byte
	}{
		{[]byte{7}, 3, []byte{7, 0, 0}},
		{[]byte{7, 8}, 3, []byte{7, 8, 0}},
		{[]byte{7, 8, 9}, 3, []byte{7, 8, 9}},
		{[]byte{7, 8}, 1, []byte{7, 8}},
		{[]byte{7, 8}, 0, []byte{7, 8}},
		{[]byte{7, 8}, -1, []byte{7, 8}},
		{[]byte{7, 8}, math.MinInt, []byte{7, 8}},
		{nil, 0, nil},
		{nil, -5, nil},
		{[]byte{}, 2, []byte{0, 0}},
		{nil, 2, []byte{0, 0}},
		// What lies beyond the length must not come back in place of the zero bytes.
		{filled(9, 7)[:1], 4, []byte{7, 0, 0, 0}},
		{[]byte{7}, most - 1, append([]byte{7}, make([]byte, most-2)...)},
		{[]byte{7}, most, append([]byte{7}, make([]byte, most-1)...)},
		{[]byte{7}, most + 1, append([]byte{7}, make([]byte, most-1)...)},
		{nil, math.MaxInt, make([]byte, most)},
		{filled(most-1, 7), math.MaxInt, append(filled(most-1, 7), 0)},
		{filled(most, 7), math.MaxInt, filled(most, 7)},
		{filled(most+1, 7), math.MaxInt, filled(most+1, 7)},
		{filled(most+9, 7), most + 20, filled(most+9, 7)},
		{filled(most+9, 7), most + 5, filled(most+9, 7)},
		{filled(most+9, 7), 3, filled(most+9, 7)},
	} {
		if got := words.Padded(c.b, c.n); !bytes.Equal(got, c.want) {
			t.Errorf("Padded of %d bytes to %d has %d bytes, want %d, or others", len(c.b), c.n, len(got), len(c.want))
		}
	}
}

// P1.4 (Same, Ahead)
func TestOrder(t *testing.T) {
	for _, c := range []struct {
		a, b        []byte
		same, ahead bool
	}{
		{nil, nil, true, false},
		{nil, []byte{}, true, false},
		{[]byte{}, nil, true, false},
		{[]byte{0}, nil, false, false},
		{nil, []byte{0}, false, true},
		{[]byte{}, []byte{0}, false, true},
		{[]byte{1}, []byte{1}, true, false},
		{[]byte{1}, []byte{1, 0}, false, true},
		{[]byte{1, 0}, []byte{1}, false, false},
		{[]byte{1, 9}, []byte{2}, false, true},
		{[]byte{2}, []byte{1, 9}, false, false},
		{[]byte{127}, []byte{128}, false, true},
		{[]byte{255}, []byte{0, 0, 0}, false, false},
		{[]byte{1, 2, 3}, []byte{1, 2, 4}, false, true},
		{[]byte{1, 2, 3}, []byte{1, 2, 3}, true, false},
		{[]byte{1, 3, 3}, []byte{1, 2, 4}, false, false},
		{filled(9, 7)[:2], []byte{7, 7}, true, false},
	} {
		if got := words.Same(c.a, c.b); got != c.same {
			t.Errorf("Same(%v, %v) = %v", c.a, c.b, got)
		}
		if got := words.Ahead(c.a, c.b); got != c.ahead {
			t.Errorf("Ahead(%v, %v) = %v", c.a, c.b, got)
		}
	}
}
