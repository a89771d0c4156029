package compat_test

import (
	"math/rand"
	"slices"
	"testing"

	"citadel/api"
	"citadel/compat"
	"citadel/valid"
)

// drawn returns a valid configuration.
func drawn(from *rand.Rand) api.Config {
	c := api.Config{Windows: []api.Window{{Len: 1 + from.Intn(64)}}}
	held := members(1 + from.Intn(63))
	for i, slot := range from.Perm(8)[:len(held)] {
		// Few sizes, so that two configurations often have the same one.
		p := part(held[i], 512*slot, []int{16, 20, 512}[from.Intn(3)], from.Intn(4) > 0)
		p.Image = make([]byte, from.Intn(17))
		c.Parts = append(c.Parts, p)
	}
	for id := 1; id <= 8; id++ {
		if ends := from.Perm(len(held)); len(held) > 1 && from.Intn(2) == 1 {
			c.Channels = append(c.Channels, link(id, held[ends[0]], held[ends[1]]))
		}
	}
	return c
}

// changed changes a thing or more of c, mostly to another valid configuration.
func changed(from *rand.Rand, c *api.Config) {
	for range from.Intn(4) {
		p := &c.Parts[from.Intn(len(c.Parts))]
		switch n := len(c.Channels); from.Intn(8) {
		case 0:
			p.Keep = !p.Keep
		case 1:
			p.Region.Size, p.Image = 16+4*from.Intn(2), nil
		case 2:
			p.Region.Base = 512*(p.Region.Base/512) + 4*from.Intn((512-p.Region.Size)/4+1)
		case 3:
			p.ID = from.Intn(8)
		case 4:
			if n > 0 {
				at := from.Intn(n)
				c.Channels = slices.Delete(c.Channels, at, at+1)
			}
		case 5:
			if n > 0 {
				c.Channels[from.Intn(n)].Cap = 1 + from.Intn(4)
			}
		case 6:
			if n > 0 {
				x := &c.Channels[from.Intn(n)]
				x.From, x.To = x.To, x.From
			}
		case 7:
			c.Windows[0].Part = from.Intn(7)
		}
	}
}

// pairs: pairs of drawn configurations, of one and what some changes made of it, and of all valid and invalid ones.
func pairs(seed int64) [][2]api.Config {
	from := rand.New(rand.NewSource(seed))
	var l [][2]api.Config
	for range 3000 {
		c := drawn(from)
		d := own(c)
		changed(from, &d)
		l = append(l, [2]api.Config{c, drawn(from)}, [2]api.Config{c, d}, [2]api.Config{d, c})
	}
	all := append(valids(), invalids()...)
	for _, c := range all {
		for _, d := range all {
			l = append(l, [2]api.Config{c, d})
		}
	}
	return l
}

// P13.1, P13.2, P13.3: drawn pairs against the chapter's definition.
func TestDrawn(t *testing.T) {
	errnos, parts, channels, leaving := map[api.Errno]int{}, map[int]int{}, map[int]int{}, map[int]int{}
	for _, x := range pairs(131) {
		want := answersOf(x[0], x[1])
		answered(t, x[0], x[1], want)
		errnos[want.errno]++
		parts[len(want.parts)]++
		channels[len(want.channels)]++
		leaving[len(want.leaving)]++
	}
	if errnos[api.OK] < 500 || errnos[api.ErrArg] < 500 || errnos[api.ErrCompat] < 500 {
		t.Errorf("too few of an error: %v", errnos)
	}
	for n := range 6 {
		if parts[n] < 20 || channels[n] < 20 || leaving[n] < 20 {
			t.Errorf("too few lists of %d: parts %v, channels %v, leaving %v", n, parts, channels, leaving)
		}
	}
}

// every returns all configurations of the partitions 1, 2 and 3, each not there or with one of two sizes, with Keep or without, and of as many channels as there may be among them.
func every(base int) []api.Config {
	var l []api.Config
	for n := 1; n < 125; n++ {
		var list []api.Partition
		for id, kind := 1, n; id <= 3; id, kind = id+1, kind/5 {
			if k := kind % 5; k > 0 {
				list = append(list, part(id, base+32*id, 16+4*(k%2), k > 2))
			}
		}
		c := config(list)
		for _, x := range []api.Channel{link(1, 1, 2), link(2, 2, 1), link(3, 1, 3), link(4, 3, 1), link(5, 2, 3), link(6, 3, 2)} {
			c.Channels = append(c.Channels, x)
			if !valid.Fits(c) {
				c.Channels = c.Channels[:len(c.Channels)-1]
			}
		}
		l = append(l, c)
	}
	return l
}

// P13.1, P13.2, P13.3: every choice of three partitions to every other one, against the chapter's definition.
func TestEvery(t *testing.T) {
	for _, from := range every(0) {
		for _, to := range every(2048) {
			answered(t, from, to, answersOf(from, to))
		}
	}
}

// P13.4 (symmetry): what survives in one direction survives in the other, and one may follow the other both ways or neither.
func TestSymmetry(t *testing.T) {
	for _, x := range pairs(134) {
		one, two := x[0], x[1]
		if there, back := compat.Check(one, two), compat.Check(two, one); there != back {
			t.Errorf("Check of %.400s and %.400s: %d, %d", told(one), told(two), there, back)
		}
		if there, back := compat.Parts(one, two), compat.Parts(two, one); !slices.Equal(there, back) {
			t.Errorf("Parts of %.400s and %.400s: %d, %d", told(one), told(two), there, back)
		}
		if there, back := compat.Channels(one, two), compat.Channels(two, one); !slices.Equal(there, back) {
			t.Errorf("Channels of %.400s and %.400s: %d, %d", told(one), told(two), there, back)
		}
		for id := range 9 {
			if compat.Survives(one, two, id) != compat.Survives(two, one, id) {
				t.Errorf("%d survives one way from %.400s to %.400s", id, told(one), told(two))
			}
		}
	}
}

// P13.5 (reflexivity): every valid configuration may follow itself; the partitions with Keep survive, and the channels between them, and nothing else does.
func TestReflexivity(t *testing.T) {
	from := rand.New(rand.NewSource(135))
	l := append(valids(), every(64)...)
	for range 3000 {
		l = append(l, drawn(from))
	}
	for _, c := range l {
		var want answers
		var keeps [7]bool
		for _, p := range c.Parts {
			keeps[p.ID] = p.Keep
			if p.Keep {
				want.parts = append(want.parts, p.ID)
			} else {
				want.leaving = append(want.leaving, p.ID)
			}
		}
		for _, x := range c.Channels {
			if keeps[x.From] && keeps[x.To] {
				want.channels = append(want.channels, x.ID)
			}
		}
		answered(t, c, c, want)
		answered(t, c, own(c), want)
	}
}

// P13.5 (reflexivity): it speaks of valid configurations alone.
func TestInvalidToItself(t *testing.T) {
	for _, c := range invalids() {
		answered(t, c, c, answers{errno: api.ErrArg})
	}
}

// joined returns the IDs of both lists, ascending.
func joined(a, b []int) []int { return slices.Sorted(slices.Values(slices.Concat(a, b))) }

// P13.1, P13.2, P13.3: the calls against each other.
func TestAgainstEachOther(t *testing.T) {
	for _, x := range pairs(130) {
		from, to := x[0], x[1]
		e, stay, leave, channels := compat.Check(from, to), compat.Parts(from, to), compat.Leaving(from, to), compat.Channels(from, to)
		if e == api.ErrArg {
			if stay != nil || leave != nil || channels != nil {
				t.Errorf("ErrArg beside %d, %d, %d", stay, leave, channels)
			}
			continue
		}
		var held, back []int
		for _, p := range from.Parts {
			held = append(held, p.ID)
		}
		for _, p := range to.Parts {
			back = append(back, p.ID)
		}
		if !slices.Equal(joined(stay, leave), held) || !slices.Equal(joined(stay, compat.Leaving(to, from)), back) {
			t.Errorf("%.400s to %.400s: %d survive, %d leave", told(from), told(to), stay, leave)
		}
		for _, id := range held {
			if is := compat.Survives(from, to, id); is != slices.Contains(stay, id) || is == slices.Contains(leave, id) {
				t.Errorf("%.400s to %.400s: Survives of %d is %v", told(from), told(to), id, is)
			}
		}
		for _, x := range from.Channels {
			if slices.Contains(channels, x.ID) && !(compat.Survives(from, to, x.From) && compat.Survives(from, to, x.To)) {
				t.Errorf("%.400s to %.400s: channel %d survives without an end", told(from), told(to), x.ID)
			}
		}
	}
}

// P13.1: a configuration whose partitions with Keep in both are made the same size as before may follow.
func TestMended(t *testing.T) {
	mended := 0
	for _, x := range pairs(136) {
		from, to := x[0], own(x[1])
		if compat.Check(from, to) != api.ErrCompat {
			continue
		}
		for _, p := range from.Parts {
			for i, q := range to.Parts {
				if p.ID == q.ID && p.Keep && q.Keep {
					to.Parts[i].Region, to.Parts[i].Image = api.Region{Base: q.Region.Base / 512 * 512, Size: p.Region.Size}, nil
				}
			}
		}
		if valid.Fits(to) {
			answered(t, from, to, answersOf(from, to))
			mended++
			if e := compat.Check(from, to); e != api.OK {
				t.Errorf("Check(%.400s, %.400s) = %d", told(from), told(to), e)
			}
		}
	}
	if mended < 500 {
		t.Errorf("only %d mended", mended)
	}
}
