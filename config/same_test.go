package config_test

import (
	"bytes"
	"math"
	"slices"
	"testing"

	"citadel/api"
	"citadel/config"
)

func same(t *testing.T, a, b api.Config, want bool) {
	t.Helper()
	if got := config.Same(a, b); got != want {
		t.Errorf("Same(%.200s, %.200s) = %v", told(a), told(b), got)
	}
	if got := config.Same(b, a); got != want {
		t.Errorf("Same(%.200s, %.200s) = %v", told(b), told(a), got)
	}
}

// own returns c in memory of its own.
func own(c api.Config) api.Config {
	d := api.Config{Windows: slices.Clone(c.Windows), Parts: slices.Clone(c.Parts), Channels: slices.Clone(c.Channels)}
	for i := range d.Parts {
		d.Parts[i].Image = bytes.Clone(d.Parts[i].Image)
	}
	return d
}

// changed returns c with a change, in memory of its own.
func changed(c api.Config, change func(c *api.Config)) api.Config {
	d := own(c)
	change(&d)
	return d
}

// orders returns l without one item, with one of them twice, and with two of them swapped, at each place.
func orders[T any](l []T) [][]T {
	var all [][]T
	for i := range l {
		all = append(all, slices.Delete(slices.Clone(l), i, i+1), slices.Insert(slices.Clone(l), i, l[i]))
		for j := range i {
			m := slices.Clone(l)
			m[i], m[j] = m[j], m[i]
			all = append(all, m)
		}
	}
	var none T
	return append(all, append(slices.Clone(l), none), append([]T{none}, l...))
}

// differing returns configurations that differ from c in one thing, and some that do not, where items that are the same were swapped.
func differing(c api.Config) []api.Config {
	var all []api.Config
	for i, n := range numbers(&c) {
		for _, x := range []int{*n + 1, *n - 1, -*n - 7, *n + 1<<32, *n ^ math.MinInt, *n ^ 1<<8} {
			all = append(all, changed(c, func(d *api.Config) { *numbers(d)[i] = x }))
		}
	}
	for i, p := range c.Parts {
		all = append(all, changed(c, func(d *api.Config) { d.Parts[i].Keep = !p.Keep }))
		for _, l := range orders(p.Image) {
			all = append(all, changed(c, func(d *api.Config) { d.Parts[i].Image = l }))
		}
		for at := range p.Image {
			all = append(all, changed(c, func(d *api.Config) { d.Parts[i].Image[at] ^= 1 << (at % 8) }))
		}
	}
	for _, l := range orders(c.Windows) {
		all = append(all, changed(c, func(d *api.Config) { d.Windows = l }))
	}
	for _, l := range orders(c.Parts) {
		all = append(all, changed(c, func(d *api.Config) { d.Parts = l }))
	}
	for _, l := range orders(c.Channels) {
		all = append(all, changed(c, func(d *api.Config) { d.Channels = l }))
	}
	return all
}

// bases: configurations with short images, so that all that differ from them in one thing are not too many.
func bases() []api.Config {
	c := some()
	c.Parts[2].Image = mixed(9, 3)
	return []api.Config{{}, one(), c, sized(3, 4, 3), sized(12, 6, 8), sized(14, 8, 10), imaged(0, 3, 20)}
}

// P11.4 (Same): the same configuration, in the same memory and in memory of its own.
func TestSame(t *testing.T) {
	for _, c := range inputs() {
		same(t, c, c, true)
		same(t, c, own(c), true)
	}
}

// P11.4 (Same): one difference, in a field, in a byte of an image, in the order or in the number.
func TestSameOneDifference(t *testing.T) {
	count := 0
	for _, c := range bases() {
		for _, d := range differing(c) {
			same(t, c, d, told(c) == told(d))
			if told(c) != told(d) {
				count++
			}
		}
	}
	if count < 2000 {
		t.Errorf("only %d differences", count)
	}
}

// P11.4 (Same): each byte of a long image counts, and one more behind it.
func TestSameLongImage(t *testing.T) {
	for _, n := range []int{512, 513} {
		c := imaged(3, n)
		for at := range n {
			same(t, c, changed(c, func(d *api.Config) { d.Parts[1].Image[at]++ }), false)
		}
		same(t, c, changed(c, func(d *api.Config) { d.Parts[1].Image = append(d.Parts[1].Image, 0) }), false)
		same(t, c, changed(c, func(d *api.Config) { d.Parts[1].Image = d.Parts[1].Image[:n-1] }), false)
	}
}

// P11.4 (Same): partitions that swap a field or an image, and channels that lead back.
func TestSameSwapped(t *testing.T) {
	c := sized(2, 3, 2)
	for _, change := range []func(d *api.Config){
		func(d *api.Config) { d.Parts[0].Image, d.Parts[2].Image = d.Parts[2].Image, d.Parts[0].Image },
		func(d *api.Config) { d.Parts[0].Keep, d.Parts[1].Keep = d.Parts[1].Keep, d.Parts[0].Keep },
		func(d *api.Config) { d.Parts[0].Region, d.Parts[1].Region = d.Parts[1].Region, d.Parts[0].Region },
		func(d *api.Config) {
			d.Parts[0].Region.Base, d.Parts[0].Region.Size = d.Parts[0].Region.Size, d.Parts[0].Region.Base
		},
		func(d *api.Config) { d.Windows[0].Len, d.Windows[0].Part = d.Windows[0].Part, d.Windows[0].Len },
		func(d *api.Config) { d.Channels[0].From, d.Channels[0].To = d.Channels[0].To, d.Channels[0].From },
		func(d *api.Config) { d.Channels[0].Cap, d.Channels[0].Size = d.Channels[0].Size, d.Channels[0].Cap },
	} {
		same(t, c, changed(c, change), false)
	}
}

// P11.4 (Same): bytes that move from one image into the next one.
func TestSameBytesMoved(t *testing.T) {
	whole := mixed(10, 1)
	split := func(n int) api.Config {
		return api.Config{Parts: []api.Partition{{Image: whole[:n]}, {Image: whole[n:]}}}
	}
	for n := range 11 {
		for m := range 11 {
			same(t, split(n), split(m), n == m)
		}
	}
}

// P11.4 (Same): each of the configurations at hand against each.
func TestSameEach(t *testing.T) {
	l := append(encodables(), others()...)
	texts := make([]string, len(l))
	for i := range l {
		texts[i] = told(l[i])
	}
	for i := range l {
		for j := range l {
			if got := config.Same(l[i], own(l[j])); got != (texts[i] == texts[j]) {
				t.Errorf("Same(%.200s, %.200s) = %v", texts[i], texts[j], got)
			}
		}
	}
}

// P11.4 (Copy): the same configuration, encodable or not.
func TestCopy(t *testing.T) {
	for _, c := range append(inputs(), bases()...) {
		if got := config.Copy(c); told(got) != told(c) {
			t.Errorf("Copy(%.200s) = %.200s", told(c), told(got))
		}
	}
}

// scrawl writes over all the memory of c, its capacity with it.
func scrawl(c api.Config) {
	for _, p := range c.Parts[:cap(c.Parts)] {
		scrawlBytes(p.Image)
	}
	fill(c.Windows, api.Window{Len: -9, Part: -9})
	fill(c.Parts, api.Partition{ID: -9, Keep: true, Image: []byte("scrawled")})
	fill(c.Channels, api.Channel{ID: -9, From: -9, To: -9, Cap: -9, Size: -9})
}

func scrawlBytes(b []byte) { fill(b, '~') }

func fill[T any](l []T, x T) {
	l = l[:cap(l)]
	for i := range l {
		l[i] = x
	}
}

// P11.4 (Copy): new memory: what was passed and the copy may be written over, each without the other one.
func TestCopyIsNew(t *testing.T) {
	for _, c := range append(inputs(), bases()...) {
		want := told(c)
		in := own(c)
		first, second := config.Copy(in), config.Copy(in)
		scrawl(first)
		if told(in) != want || told(second) != want {
			t.Errorf("the copy of %.200s shares memory with it: %.200s, %.200s", want, told(in), told(second))
		}
		scrawl(in)
		if told(second) != want {
			t.Errorf("the copy of %.200s became %.200s", want, told(second))
		}
	}
}

// P11.4 (Copy): images that share memory do not share it in the copy.
func TestCopyOfSharedImages(t *testing.T) {
	whole := mixed(20, 1)
	c := api.Config{Parts: []api.Partition{{Image: whole[:10]}, {Image: whole}, {Image: whole[10:]}, {Image: whole[:0]}}}
	want := own(c)
	for i := range c.Parts {
		got := config.Copy(c)
		scrawlBytes(got.Parts[i].Image)
		got.Parts[i].Image = want.Parts[i].Image
		same(t, got, want, true)
	}
}
