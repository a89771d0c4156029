package valid_test

import (
	"math"
	"slices"
	"testing"

	"citadel/api"
	"citadel/config"
	"citadel/valid"
)

// P12.1, P12.2: the chapter's examples.
func TestExamples(t *testing.T) {
	found(t, example())
	for _, x := range []struct {
		turn func(c *api.Config)
		want []api.Errno
	}{
		{func(c *api.Config) { c.Windows[0].Part = 2 }, []api.Errno{api.ErrSchedule}},
		{func(c *api.Config) { c.Windows = nil }, []api.Errno{api.ErrSchedule}},
		{func(c *api.Config) { c.Parts = append(c.Parts, part(1, 16, 16, 0)) }, []api.Errno{api.ErrParts}},
		{func(c *api.Config) { c.Parts = append(c.Parts, part(1, 8, 16, 0)) }, []api.Errno{api.ErrParts, api.ErrOverlap}},
		{func(c *api.Config) { c.Parts[0].Image = make([]byte, 17) }, []api.Errno{api.ErrRegion}},
		{func(c *api.Config) { c.Parts[0].Region.Size = 12 }, []api.Errno{api.ErrRegion}},
		{func(c *api.Config) { c.Channels = []api.Channel{link(1, 1, 2)} }, []api.Errno{api.ErrChannel}},
	} {
		c := example()
		x.turn(&c)
		found(t, c, x.want...)
	}
}

// valids: valid configurations, ordinary ones and those at the edges.
func valids() []api.Config {
	l := []api.Config{example(), some(), full(), held(1), held(6), held(2, 3), held(1, 6), held(1, 2, 3, 4, 5, 6)}
	for _, size := range []int{16, 20, 508, 512} {
		for _, image := range []int{0, 1, size - 1, size} {
			c := example()
			c.Parts = []api.Partition{part(1, 0, size, image), part(3, size, size, size-image), part(4, 4096-size, size, image)}
			c.Channels = []api.Channel{link(3, 4, 1), link(7, 1, 4)}
			l = append(l, c)
		}
	}
	return l
}

// P12.2 (Fits): a valid configuration has no fault, and is encodable.
func TestValid(t *testing.T) {
	for _, c := range valids() {
		found(t, c)
		encodes(t, c)
	}
}

// encodes holds the configuration to be encodable, and what is parsed to be valid like it.
func encodes(t *testing.T, c api.Config) {
	t.Helper()
	b, e := config.Print(c)
	if e != api.OK || !config.Can(c) {
		t.Errorf("%.400s is not encodable: %d", told(c), e)
	}
	d, e := config.Parse(b)
	if e != api.OK || !config.Same(c, d) || !valid.Fits(d) {
		t.Errorf("%.400s is parsed as %.400s, %d", told(c), told(d), e)
	}
}

// P12.2 (Fits): what is not encodable is not valid.
func TestNotEncodable(t *testing.T) {
	windows, partitions, image, channels := full(), full(), full(), full()
	windows.Windows = append(windows.Windows, api.Window{Len: 1})
	partitions.Parts = append(partitions.Parts, part(6, 0, 16, 0))
	image.Parts[3].Image = make([]byte, 513)
	channels.Channels = append(channels.Channels, link(8, 1, 2))
	for _, c := range []api.Config{windows, partitions, image, channels} {
		if config.Can(c) || valid.Fits(c) || valid.Check(c) == api.OK || len(valid.All(c)) == 0 {
			t.Errorf("%.400s is valid, or encodable", told(c))
		}
	}
	found(t, windows, api.ErrSchedule)
	found(t, partitions, api.ErrParts)
	found(t, image, api.ErrRegion)
	found(t, channels, api.ErrChannel)
}

// P12.1: the zero configuration has neither windows nor partitions.
func TestZero(t *testing.T) {
	found(t, api.Config{}, api.ErrSchedule, api.ErrParts)
}

// wrongs: for each fault, in order, ways to give it to the configuration that full returns, and it alone.
func wrongs() [5][]func(c *api.Config) {
	return [5][]func(c *api.Config){
		{
			func(c *api.Config) { c.Windows = nil },
			func(c *api.Config) { c.Windows[11].Part = -1 },
			func(c *api.Config) { c.Windows[0].Len = 54 },
			func(c *api.Config) { c.Windows[5].Part = 7; c.Windows[6].Part = 8 },
		},
		{
			func(c *api.Config) { c.Parts = append(c.Parts, part(6, 0, 16, 0)) },
			func(c *api.Config) { c.Parts[0], c.Parts[5] = c.Parts[5], c.Parts[0] },
			func(c *api.Config) { c.Parts = append(c.Parts, part(0, 0, 16, 0), part(7, 16, 16, 0)) },
		},
		{
			func(c *api.Config) { c.Parts[0].Region.Size = 510 },
			func(c *api.Config) { c.Parts[3].Image = make([]byte, 513) },
			func(c *api.Config) { c.Parts[1].Region, c.Parts[2].Region = api.Region{}, api.Region{Base: 2, Size: 2} },
		},
		{
			func(c *api.Config) { c.Parts[5].Region = c.Parts[4].Region },
			func(c *api.Config) { c.Parts[4].Region.Base -= 4 },
		},
		{
			func(c *api.Config) { c.Channels = append(c.Channels, link(9, 1, 2)) },
			func(c *api.Config) { c.Channels[7].ID = 7 },
			func(c *api.Config) { c.Channels[2].From, c.Channels[3].Cap = 7, 0 },
		},
	}
}

// P12.1 (All, Check): each choice of the five faults, in the order of the chapter and each once, whichever way a fault is given.
func TestSeveral(t *testing.T) {
	order := []api.Errno{api.ErrSchedule, api.ErrParts, api.ErrRegion, api.ErrOverlap, api.ErrChannel}
	for choice := range 32 {
		for way := range 12 {
			c := full()
			var want []api.Errno
			for i, l := range wrongs() {
				if choice>>i&1 == 1 {
					l[way%len(l)](&c)
					want = append(want, order[i])
				}
			}
			found(t, c, want...)
			found(t, c, faultsOf(c)...)
		}
	}
}

// P12.1 (All): a fault that a configuration has in many places is one fault.
func TestEachOnce(t *testing.T) {
	c := api.Config{}
	for range 20 {
		c.Windows = append(c.Windows, api.Window{Len: -1, Part: 9})
		c.Parts = append(c.Parts, part(0, 0, 16, 17), part(7, 4, 16, 1), part(0, 0, 12, 0))
		c.Channels = append(c.Channels, link(0, 0, 0))
	}
	found(t, c, api.ErrSchedule, api.ErrParts, api.ErrRegion, api.ErrOverlap, api.ErrChannel)
}

// numbers returns the places of all numbers of c.
func numbers(c *api.Config) []*int {
	var l []*int
	for i := range c.Windows {
		x := &c.Windows[i]
		l = append(l, &x.Len, &x.Part)
	}
	for i := range c.Parts {
		x := &c.Parts[i]
		l = append(l, &x.ID, &x.Region.Base, &x.Region.Size)
	}
	for i := range c.Channels {
		x := &c.Channels[i]
		l = append(l, &x.ID, &x.From, &x.To, &x.Cap, &x.Size)
	}
	return l
}

// greatest: numbers at their least and at their greatest, and those that are small in fewer bits.
func greatest() []int {
	l := []int{math.MinInt, math.MinInt + 1, math.MinInt + 4, math.MinInt + 16, math.MaxInt, math.MaxInt - 1, math.MaxInt - 3, math.MaxInt - 15}
	for _, bits := range []int{16, 31, 32, 33, 62} {
		for _, x := range []int{0, 1, 2, 5, 16} {
			l = append(l, 1<<bits+x, -1<<bits+x)
		}
	}
	return l
}

// extremes: configurations one number of which is at its least or at its greatest, and those of which all are.
func extremes() []api.Config {
	var l []api.Config
	for _, x := range greatest() {
		for _, start := range []api.Config{some(), full()} {
			for i := range numbers(&start) {
				c := own(start)
				*numbers(&c)[i] = x
				l = append(l, c)
			}
			c := own(start)
			for _, n := range numbers(&c) {
				*n = x
			}
			l = append(l, c)
		}
	}
	return l
}

// P12.1 (Check, All), P0.1: numbers at their least and at their greatest in each field.
func TestExtremes(t *testing.T) {
	for _, c := range extremes() {
		want := faultsOf(c)
		found(t, c, want...)
		if len(want) == 0 {
			t.Errorf("%.400s is valid", told(c))
		}
	}
}

// P12.1: two numbers of a kind that add up to a small one where they wrap.
func TestSumsThatWrap(t *testing.T) {
	c := example()
	c.Windows = []api.Window{{Len: math.MaxInt, Part: 1}, {Len: math.MaxInt}, {Len: 4}}
	found(t, c, api.ErrSchedule)
	c = example()
	c.Parts = []api.Partition{part(1, math.MaxInt-15, 16, 0), part(2, math.MinInt, 16, 0), part(3, 16, math.MaxInt-15, 0)}
	found(t, c, api.ErrRegion)
	for _, n := range []int{-1, 0, 1, 2, 4, 5, 8} {
		for i := range numbers(&c) {
			c := own(c)
			*numbers(&c)[i] = n
			found(t, c, faultsOf(c)...)
		}
	}
}

// P12.1, P12.2: each number of valid configurations at every value near what it may be.
func TestEachNumber(t *testing.T) {
	values := []int{60, 63, 64, 65, 508, 510, 511, 512, 513, 516, 1022, 1023, 1024, 1025, 1028, 1532, 1536, 3580, 3584, 3588, 4076, 4080, 4084, 4092, 4096, 4100}
	for x := -5; x <= 40; x++ {
		values = append(values, x)
	}
	for _, start := range []api.Config{example(), some(), full()} {
		for i := range numbers(&start) {
			for _, x := range values {
				c := own(start)
				*numbers(&c)[i] = x
				found(t, c, faultsOf(c)...)
			}
		}
	}
}

// P12.1 (Check, All), P12.2 (Fits): Check and Fits against All, through lists of configurations valid and not.
func TestAgainstAll(t *testing.T) {
	for _, c := range slices.Concat(valids(), extremes(), inputs()) {
		l := valid.All(c)
		if valid.Fits(c) != (len(l) == 0) {
			t.Errorf("Fits(%.400s) = %v, All: %d", told(c), valid.Fits(c), l)
		}
		if e := valid.Check(c); len(l) == 0 && e != api.OK || len(l) > 0 && e != l[0] {
			t.Errorf("Check(%.400s) = %d, All: %d", told(c), e, l)
		}
	}
}
