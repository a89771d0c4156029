package valid_test

import (
	"math/rand"
	"slices"
	"testing"

	"citadel/api"
	"citadel/valid"
)

// drawn returns a valid configuration.
func drawn(from *rand.Rand) api.Config {
	var c api.Config
	ids := subsets()[from.Intn(63)]
	for i, slot := range from.Perm(8)[:len(ids)] {
		// The memory's eight parts of 512 bytes keep the regions apart.
		size := 16 + 4*from.Intn(125)
		base := 512*slot + 4*from.Intn((512-size)/4+1)
		p := part(ids[i], base, size, from.Intn(size+1))
		p.Keep = from.Intn(2) == 1
		c.Parts = append(c.Parts, p)
	}
	for range 1 + from.Intn(12) {
		c.Windows = append(c.Windows, api.Window{Len: 1 + from.Intn(5), Part: append(ids, 0)[from.Intn(len(ids)+1)]})
	}
	for id := 1; id <= 8; id++ {
		ends := from.Perm(len(ids))
		if len(ids) > 1 && from.Intn(2) == 1 {
			c.Channels = append(c.Channels, api.Channel{ID: id, From: ids[ends[0]], To: ids[ends[1]], Cap: 1 + from.Intn(4), Size: 1 + from.Intn(16)})
		}
	}
	return c
}

// mended changes one number of c, or one list or image, to what may be wrong.
func mended(from *rand.Rand, c *api.Config) {
	switch l := numbers(c); from.Intn(8) {
	case 0:
		c.Windows = slices.Repeat(c.Windows, from.Intn(3))
	case 1:
		c.Parts = append(c.Parts, part(from.Intn(8), 4*from.Intn(1024), 16, from.Intn(20)))
	case 2:
		c.Channels = append(c.Channels, link(from.Intn(10), from.Intn(8), from.Intn(8)))
	case 3:
		if len(c.Parts) > 0 {
			c.Parts[from.Intn(len(c.Parts))].Image = make([]byte, from.Intn(600))
		}
	case 4:
		if len(c.Parts) > 0 {
			c.Parts = slices.Delete(c.Parts, len(c.Parts)-1, len(c.Parts))
		}
	case 5:
		if len(l) > 0 {
			*l[from.Intn(len(l))] += from.Intn(9) - 4
		}
	case 6:
		if len(l) > 0 {
			*l[from.Intn(len(l))] = from.Intn(18)
		}
	case 7:
		if len(c.Parts) > 1 {
			c.Parts[0].Region.Base = c.Parts[1].Region.Base + 4*(from.Intn(250)-125)
		}
	}
}

// P12.1 (Check, All), P12.2 (Fits): drawn configurations, with some changes, against the chapter's definition.
func TestDrawn(t *testing.T) {
	from := rand.New(rand.NewSource(121))
	got := map[int]int{}
	for range 20000 {
		c := drawn(from)
		found(t, c)
		encodes(t, c)
		for range 1 + from.Intn(5) {
			mended(from, &c)
		}
		want := faultsOf(c)
		found(t, c, want...)
		for _, e := range want {
			got[int(e)]++
		}
		got[-len(want)]++
	}
	for _, x := range []int{90, 120, 80, 121, 100, 0, -1, -2, -3, -4} {
		if got[x] < 100 {
			t.Errorf("too few faults of a kind, or as many at a time: %v", got)
		}
	}
}

// withIDs returns the partitions of c, their list made as long as ids, with these IDs.
func withIDs(c api.Config, ids []api.Partition) []api.Partition {
	l := make([]api.Partition, len(ids))
	copy(l, c.Parts)
	for i := range l {
		l[i].ID = ids[i].ID
	}
	return l
}

// has reports whether c has that fault.
func has(c api.Config, e api.Errno) bool { return slices.Contains(valid.All(c), e) }

// P12.3 (independence): each fault follows the windows, the regions or the channels, and the IDs, through any exchange of the rest.
func TestIndependence(t *testing.T) {
	from := rand.New(rand.NewSource(123))
	got := map[api.Errno]int{}
	for range 20000 {
		a, b := drawn(from), drawn(from)
		for range from.Intn(5) {
			mended(from, &a)
			mended(from, &b)
		}
		ids := withIDs(b, a.Parts)
		for _, x := range []struct {
			errno api.Errno
			mix   api.Config
		}{
			{api.ErrSchedule, api.Config{Windows: a.Windows, Parts: ids, Channels: b.Channels}},
			{api.ErrParts, api.Config{Windows: b.Windows, Parts: ids, Channels: b.Channels}},
			{api.ErrRegion, api.Config{Windows: b.Windows, Parts: withIDs(a, make([]api.Partition, len(a.Parts))), Channels: b.Channels}},
			{api.ErrOverlap, api.Config{Windows: b.Windows, Parts: withIDs(a, make([]api.Partition, len(a.Parts))), Channels: b.Channels}},
			{api.ErrChannel, api.Config{Windows: b.Windows, Parts: ids, Channels: a.Channels}},
		} {
			if has(a, x.errno) != has(x.mix, x.errno) {
				t.Errorf("fault %d: %v in %.300s, but not in %.300s", x.errno, has(a, x.errno), told(a), told(x.mix))
			}
			if has(a, x.errno) {
				got[x.errno]++
			}
		}
	}
	for _, e := range []api.Errno{api.ErrSchedule, api.ErrParts, api.ErrRegion, api.ErrOverlap, api.ErrChannel} {
		if got[e] < 500 {
			t.Errorf("too few of a fault: %v", got)
		}
	}
}

// P12.3 (independence): one wrong thing of each part leaves the faults of the others as they are.
func TestIndependenceOfWrongs(t *testing.T) {
	alone := wrongs()
	for i, l := range alone {
		for j, k := range alone {
			for _, turn := range l {
				for _, other := range k {
					if i == j {
						continue
					}
					c := full()
					turn(&c)
					e := valid.Check(c)
					other(&c)
					if !has(c, e) {
						t.Errorf("fault %d of %.300s has gone: %d", e, told(c), valid.All(c))
					}
				}
			}
		}
	}
}

// kept: valid configurations of all kinds, and many drawn ones.
func kept() []api.Config {
	l := valids()
	from := rand.New(rand.NewSource(124))
	for range 1000 {
		l = append(l, drawn(from))
	}
	return l
}

// P12.4 (small changes): any channels removed.
func TestChannelsRemoved(t *testing.T) {
	for _, c := range kept() {
		for set := range 1 << len(c.Channels) {
			d := own(c)
			d.Channels = nil
			for i, x := range c.Channels {
				if set>>i&1 == 1 {
					d.Channels = append(d.Channels, x)
				}
			}
			found(t, d)
		}
	}
}

// P12.4 (small changes): Keep inverted, for any of the partitions.
func TestKeepInverted(t *testing.T) {
	for _, c := range kept() {
		for set := range 1 << len(c.Parts) {
			d := own(c)
			for i := range d.Parts {
				d.Parts[i].Keep = d.Parts[i].Keep != (set>>i&1 == 1)
			}
			found(t, d)
		}
	}
}

// P12.4 (small changes): an image of any length up to its region's, whatever its bytes are; a longer one is no such change.
func TestOtherImages(t *testing.T) {
	for i, c := range kept() {
		for at := range c.Parts {
			size := c.Parts[at].Region.Size
			for n := 0; n <= size+1; n++ {
				// The lengths at the edges, and for the other ones some of each configuration.
				if n > 1 && n < size-1 && n%53 != i%53 {
					continue
				}
				d := own(c)
				d.Parts[at].Image = slices.Repeat([]byte{byte(255 - n)}, n)
				if n <= size {
					found(t, d)
				} else {
					found(t, d, api.ErrRegion)
				}
			}
		}
	}
}

// P12.4 (small changes): all of these changes at once, again and again.
func TestChangesTogether(t *testing.T) {
	from := rand.New(rand.NewSource(125))
	for _, c := range kept() {
		d := own(c)
		for range 20 {
			if n := len(d.Channels); n > 0 && from.Intn(4) == 0 {
				at := from.Intn(n)
				d.Channels = slices.Delete(d.Channels, at, at+1)
			}
			p := &d.Parts[from.Intn(len(d.Parts))]
			p.Keep = !p.Keep
			p.Image = make([]byte, from.Intn(p.Region.Size+1))
			found(t, d)
		}
	}
}
