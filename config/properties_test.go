package config_test

import (
	"bytes"
	"math/rand"
	"slices"
	"testing"

	"citadel/api"
	"citadel/config"
)

// drawnNumber returns a number that is small as often as not.
func drawnNumber(from *rand.Rand) int {
	if from.Intn(2) == 0 {
		return from.Intn(7)
	}
	return int(from.Uint64()) >> from.Intn(64)
}

// drawn returns a configuration with at most so many windows, partitions and channels, and images of at most so many bytes.
func drawn(from *rand.Rand, windows, parts, channels, image int) api.Config {
	c := sized(from.Intn(windows+1), from.Intn(parts+1), from.Intn(channels+1))
	for _, n := range numbers(&c) {
		*n = drawnNumber(from)
	}
	for i := range c.Parts {
		c.Parts[i].Keep = from.Intn(2) == 1
		c.Parts[i].Image = make([]byte, from.Intn(image+1))
		from.Read(c.Parts[i].Image)
	}
	return c
}

// roundTrip parses what was printed and prints what was parsed.
func roundTrip(t *testing.T, c api.Config) {
	t.Helper()
	b, e := config.Print(c)
	if e != api.OK || !bytes.Equal(b, form(c)) {
		t.Errorf("Print(%.200s) = %.200v, %d", told(c), b, e)
	}
	d, e := config.Parse(b)
	if e != api.OK || told(d) != told(c) || !config.Same(c, d) || !config.Can(d) {
		t.Errorf("Parse of what was printed of %.200s = %.200s, %d", told(c), told(d), e)
	}
	again, e := config.Print(d)
	if e != api.OK || !bytes.Equal(again, b) {
		t.Errorf("Print of what was parsed of %.200s = %.200v, %d", told(c), again, e)
	}
}

// P11.5 (round trip): of all kinds of configurations, and of drawn ones.
func TestRoundTrip(t *testing.T) {
	for _, c := range slices.Concat(encodables(), extremes()) {
		roundTrip(t, c)
		roundTrip(t, config.Copy(c))
	}
	from := rand.New(rand.NewSource(115))
	for range 3000 {
		roundTrip(t, drawn(from, 12, 6, 8, 512))
	}
}

// P11.5 (round trip): printing what was parsed returns the bytes that were parsed; drawn bytes, which are near an encoding.
func TestRoundTripOfBytes(t *testing.T) {
	from := rand.New(rand.NewSource(116))
	got := map[bool]int{}
	for range 20000 {
		b := form(drawn(from, 3, 3, 3, 5))
		for range from.Intn(3) {
			switch at := from.Intn(len(b)); from.Intn(5) {
			case 0:
				b[at] = byte(from.Intn(3))
			case 1:
				b[at] ^= 1 << from.Intn(8)
			case 2:
				b = slices.Delete(b, at, min(at+1+from.Intn(16), len(b)))
			case 3:
				b = slices.Insert(b, at, make([]byte, 1+from.Intn(16))...)
			case 4:
				b = append(b, mixed(from.Intn(3), from.Uint32())...)
			}
			if len(b) == 0 {
				break
			}
		}
		ok := held(t, b)
		got[ok]++
		c, e := config.Parse(b)
		if (e == api.OK) != ok {
			t.Errorf("Parse(%v): %d", b, e)
		}
		if again, e := config.Print(c); ok && (e != api.OK || !bytes.Equal(again, b)) {
			t.Errorf("Print of what was parsed of %v = %v, %d", b, again, e)
		}
	}
	if got[true] < 3000 || got[false] < 3000 {
		t.Errorf("encodings, and others: %v", got)
	}
}

// P11.6 (unique encoding): configurations that differ in one thing have different encodings, those that do not have the same.
func TestUnique(t *testing.T) {
	for _, c := range bases() {
		b, e := config.Print(c)
		if e != api.OK {
			continue
		}
		for _, d := range differing(c) {
			other, e := config.Print(d)
			if e == api.OK && bytes.Equal(b, other) != config.Same(c, d) {
				t.Errorf("%.200s and %.200s: the same %v, the same encoding %v", told(c), told(d), config.Same(c, d), bytes.Equal(b, other))
			}
		}
	}
}

// P11.6 (unique encoding): each of many small configurations against each.
func TestUniqueEach(t *testing.T) {
	from := rand.New(rand.NewSource(117))
	l := encodables()
	for range 600 {
		c := drawn(from, 2, 2, 2, 2)
		for _, n := range numbers(&c) {
			*n &= 1
		}
		for _, p := range c.Parts {
			for i := range p.Image {
				p.Image[i] &= 1
			}
		}
		l = append(l, c)
	}
	forms := make([]string, len(l))
	texts := make([]string, len(l))
	for i, c := range l {
		b, e := config.Print(c)
		if e != api.OK {
			t.Errorf("Print(%.200s): %d", told(c), e)
		}
		forms[i], texts[i] = string(b), told(c)
	}
	pairs := 0
	for i := range l {
		for j := range i {
			if (forms[i] == forms[j]) != (texts[i] == texts[j]) || config.Same(l[i], l[j]) != (texts[i] == texts[j]) {
				t.Errorf("%.200s and %.200s: the same encoding %v", texts[i], texts[j], forms[i] == forms[j])
			}
			if texts[i] == texts[j] {
				pairs++
			}
		}
	}
	if pairs < 100 {
		t.Errorf("only %d pairs are the same", pairs)
	}
}

// P11.4 (Same), P11.1 (Can): drawn configurations, encodable and not.
func TestDrawn(t *testing.T) {
	from := rand.New(rand.NewSource(114))
	got := map[bool]int{}
	for range 3000 {
		c := drawn(from, 13, 7, 9, 520)
		can(t, c, isEncodable(c))
		got[isEncodable(c)]++
		if !isEncodable(c) {
			notPrinted(t, c)
			notParsed(t, form(c))
		}
		d := own(c)
		same(t, c, d, true)
		if l := numbers(&d); len(l) > 0 {
			n := l[from.Intn(len(l))]
			*n += 1 + from.Intn(2)*drawnNumber(from)
			same(t, c, d, told(c) == told(d))
		}
		for id := -1; id < 8; id++ {
			partIs(t, c, id, slices.IndexFunc(c.Parts, func(p api.Partition) bool { return p.ID == id }))
			channelIs(t, c, id, slices.IndexFunc(c.Channels, func(x api.Channel) bool { return x.ID == id }))
		}
	}
	if got[true] < 500 || got[false] < 500 {
		t.Errorf("encodable and not: %v", got)
	}
}
