package words_test

import (
	"bytes"
	"math"
	"testing"

	"citadel/words"
)

// numbers: those around each power of two, where a byte begins or a sign would.
func numbers() []uint64 {
	l := []uint64{0, 258, 0x0102030405060708, math.MaxUint64}
	for i := range 64 {
		x := uint64(1) << i
		l = append(l, x-1, x, x+1)
	}
	return l
}

func fits(x uint64, n int) bool { return n == 8 || x < 1<<(8*n) }

// slicesOf lists every slice of at most n bytes made of few different ones.
func slicesOf(n int) [][]byte {
	l := [][]byte{nil}
	for i := 0; i < len(l); i++ {
		for _, x := range []byte{0, 1, 128, 255} {
			if len(l[i]) < n {
				l = append(l, append(append([]byte{}, l[i]...), x))
			}
		}
	}
	return l
}

// P1.5 (round trip): from the number.
func TestNumberOfRow(t *testing.T) {
	for _, x := range numbers() {
		for n := 1; n <= 8; n++ {
			want := x
			if !fits(x, n) { // then the encoding is that of x modulo 256^n
				want = x % (1 << (8 * n))
			}
			if got, ok := words.Number(words.Row(x, n)); got != want || !ok {
				t.Errorf("Number(Row(%d, %d)) = %d, %v", x, n, got, ok)
			}
		}
	}
}

// P1.5 (round trip): from the row, leading zeros too.
func TestRowOfNumber(t *testing.T) {
	rows := slicesOf(4)
	for n := 5; n <= 9; n++ {
		rows = append(rows, filled(n, 0), filled(n, 1), filled(n, 255))
	}
	for _, row := range rows {
		x, ok := words.Number(row)
		if ok != (len(row) >= 1 && len(row) <= 8) {
			t.Errorf("Number(%v): %v", row, ok)
		}
		if got := words.Row(x, len(row)); ok && !bytes.Equal(got, row) {
			t.Errorf("Row(Number(%v)) = %v", row, got)
		}
	}
}

// P1.5 (round trip): what Put32 and Put64 put, Load32 and Load64 load, wherever it starts.
func TestLoadOfPut(t *testing.T) {
	for _, x := range numbers() {
		for at := range 4 {
			head := filled(at, 9)
			if got, ok := words.Load64(words.Cat(head, words.Put64(x), head), at); got != x || !ok {
				t.Errorf("Load64(Put64(%d)) at %d = %d, %v", x, at, got, ok)
			}
			if got, ok := words.Load32(words.Cat(head, words.Put32(uint32(x)), head), at); got != uint32(x) || !ok {
				t.Errorf("Load32(Put32(%d)) at %d = %d, %v", uint32(x), at, got, ok)
			}
		}
	}
}

// P1.6 (order): encodings of equal length are ordered as their numbers.
func TestOrderOfNumbers(t *testing.T) {
	l := numbers()
	for _, x := range l {
		for _, y := range l {
			for n := 1; n <= 8; n++ {
				if !fits(x, n) || !fits(y, n) {
					continue
				}
				a, b := words.Row(x, n), words.Row(y, n)
				if words.Ahead(a, b) != (x < y) || words.Same(a, b) != (x == y) {
					t.Errorf("order of %d and %d in %d bytes", x, y, n)
				}
			}
		}
	}
}

// P1.6 (order): of two slices, either one precedes the other or they are the same; and it is an order.
func TestOrderOfSlices(t *testing.T) {
	l := slicesOf(3)
	for _, a := range l {
		for _, b := range l {
			n := 0
			for _, is := range []bool{words.Ahead(a, b), words.Ahead(b, a), words.Same(a, b)} {
				if is {
					n++
				}
			}
			if n != 1 {
				t.Errorf("%v and %v: %d of the three hold", a, b, n)
			}
			if words.Same(a, b) != words.Same(b, a) {
				t.Errorf("Same(%v, %v) depends on which comes first", a, b)
			}
		}
	}
	short := slicesOf(2)
	for _, a := range short {
		for _, b := range short {
			for _, c := range short {
				if words.Ahead(a, b) && words.Ahead(b, c) && !words.Ahead(a, c) {
					t.Errorf("%v, %v, %v: not in order", a, b, c)
				}
			}
		}
	}
}

// P1.7 (pieces), and that each piece but the last has n bytes.
func TestPiecesJoined(t *testing.T) {
	all := make([]byte, 40)
	for i := range all {
		all[i] = byte(i)
	}
	for size := range all {
		b := all[:size]
		for _, n := range []int{1, 2, 3, 7, 8, 9, 39, 40, 41, math.MaxInt} {
			l := words.Cut(b, n)
			if got := words.Cat(l...); !bytes.Equal(got, b) {
				t.Errorf("Cat(Cut of %d bytes, %d) = %v", size, n, got)
			}
			for i, piece := range l {
				if len(piece) == 0 || len(piece) > n || i < len(l)-1 && len(piece) != n {
					t.Errorf("Cut of %d bytes, %d: piece %d has %d bytes", size, n, i, len(piece))
				}
			}
		}
	}
}
