package schedule_test

import (
	"math/rand"
	"slices"
	"testing"

	"citadel/api"
	"citadel/schedule"
)

// drawn returns windows, most of which make a valid schedule.
func drawn(from *rand.Rand) []api.Window {
	var l []api.Window
	most := 1 + from.Intn(20)
	for range 1 + from.Intn(12) {
		l = append(l, api.Window{Len: 1 + from.Intn(most), Part: from.Intn(7)})
	}
	switch i := from.Intn(len(l)); from.Intn(20) {
	case 0:
		l[i].Part = -1 + 8*from.Intn(2)
	case 1:
		l[i].Len = -from.Intn(3)
	case 2:
		l = append(l, equal(13-len(l), 1, 0)...)
	}
	return l
}

// held holds the calls to what the ticks of l are, written out one by one.
func held(t *testing.T, l []api.Window) {
	t.Helper()
	all := frame(l)
	mayAndFrame(t, l)
	var owners []int
	count := map[int]int{}
	for i, now := range all {
		at(t, l, i, now.window, now.part, now.first, now.left)
		owners = append(owners, now.part)
		count[now.part]++
	}
	whole(t, l, owners...)
	for part := -1; part <= 7; part++ {
		ticks(t, l, part, count[part])
	}
	refused(t, l, len(all))
	refused(t, l, -1)
}

// P9.1 to P9.3: drawn schedules, valid and not.
func TestDrawn(t *testing.T) {
	from := rand.New(rand.NewSource(91))
	got := map[bool]int{}
	for range 3000 {
		l := drawn(from)
		held(t, l)
		got[schedule.May(l)]++
	}
	if got[true] < 500 || got[false] < 500 {
		t.Errorf("valid and not: %v", got)
	}
}

// P9.4 (partition of the frame): each tick has one owner, on which At and Whole agree; the owners' ticks are the frame.
func TestPartitionOfTheFrame(t *testing.T) {
	from := rand.New(rand.NewSource(94))
	for range 3000 {
		l := drawn(from)
		n, owners, sum := schedule.Frame(l), schedule.Whole(l), 0
		if len(owners) != n {
			t.Errorf("%v: %d ticks, %d owners", l, n, len(owners))
		}
		for part := -1; part <= 7; part++ {
			mine := 0
			for now := range n {
				if s, e := schedule.At(l, now); e == api.OK && s.Part == part && owners[now] == part {
					mine++
				}
			}
			ticks(t, l, part, mine)
			sum += mine
		}
		if sum != n {
			t.Errorf("%v: %d ticks, but %d of all partitions and of none", l, n, sum)
		}
	}
}

// P9.5 (consecutive windows): from a window's first tick, Left leads to the first tick of the next window, and from the last window to the end of the frame.
func TestConsecutiveWindows(t *testing.T) {
	from := rand.New(rand.NewSource(95))
	for _, l := range append(valid(), drawn(from), drawn(from), drawn(from), drawn(from), drawn(from), drawn(from)) {
		if !schedule.May(l) {
			continue
		}
		now := 0
		for i, w := range l {
			at(t, l, now, i, w.Part, now, w.Len)
			s, _ := schedule.At(l, now)
			last := now + s.Left - 1
			at(t, l, last, i, w.Part, now, 1)
			now = last + 1
		}
		if now != schedule.Frame(l) {
			t.Errorf("%v: the windows end before tick %d, the frame before tick %d", l, now, schedule.Frame(l))
		}
		refused(t, l, now)
	}
}

// P9.5 (consecutive windows): one tick on, the window is the same with one tick less, or the next one at its first tick.
func TestTickAfterTick(t *testing.T) {
	from := rand.New(rand.NewSource(59))
	for range 1000 {
		l := drawn(from)
		for now := 1; now < schedule.Frame(l); now++ {
			before, _ := schedule.At(l, now-1)
			if before.Left > 1 {
				at(t, l, now, before.Window, before.Part, before.First, before.Left-1)
				continue
			}
			next := l[before.Window+1]
			at(t, l, now, before.Window+1, next.Part, now, next.Len)
		}
	}
}

// P9.4 (partition of the frame): the order of the windows changes no partition's ticks, nor does a window that is cut in two.
func TestOrderAndCuts(t *testing.T) {
	from := rand.New(rand.NewSource(49))
	for range 1000 {
		l := drawn(from)
		mixed := slices.Clone(l)
		from.Shuffle(len(mixed), func(i, j int) { mixed[i], mixed[j] = mixed[j], mixed[i] })
		for part := -1; part <= 7; part++ {
			ticks(t, mixed, part, schedule.Ticks(l, part))
		}
		if i := from.Intn(len(l)); len(l) < 12 && l[i].Len > 1 {
			cut := slices.Insert(slices.Clone(l), i, api.Window{Len: 1, Part: l[i].Part})
			cut[i+1].Len--
			whole(t, cut, schedule.Whole(l)...)
		}
	}
}
