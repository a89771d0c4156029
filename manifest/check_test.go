package manifest_test

import (
	"math"
	"slices"
	"testing"

	"citadel/api"
	"citadel/manifest"
)

// P14.3 (Check): the chapter's examples.
func TestCheckExamples(t *testing.T) {
	for i, x := range []struct {
		turn func(m *api.Manifest)
		want api.Errno
	}{
		{func(m *api.Manifest) {}, api.OK},
		{func(m *api.Manifest) { m.Prev = api.Tag{} }, api.ErrChain},
		{func(m *api.Manifest) { m.Version = 1 }, api.ErrStale},
		{func(m *api.Manifest) { m.Config = plain(2) }, api.ErrSchedule},
	} {
		m := with(next(first()), x.turn)
		checked(t, secret(), first(), encoding(sealed(secret(), m)), sealed(secret(), m), x.want)
		if judged(t, secret(), first(), m) != api.ErrTag {
			t.Errorf("%d: not sealed, another error", i)
		}
	}
	checked(t, secret(), first(), nil, api.Manifest{}, api.ErrManifest)
}

// P14.3 (ErrStale): versions against the running one's, the least and the greatest among them.
func TestStale(t *testing.T) {
	for _, was := range []int{1, 2, 3, 255, 256, 1 << 32, 1<<40 - 1, 1 << 40} {
		running := sealed(secret(), with(first(), func(m *api.Manifest) { m.Version = was }))
		for _, version := range []int{1, 2, 3, 4, was - 1, was, was + 1, was + 2, 257, 1<<40 - 1, 1 << 40} {
			if version < 1 || version > 1<<40 {
				continue
			}
			want := api.ErrStale
			if version > was {
				want = api.OK
			}
			m := sealed(secret(), with(next(running), func(m *api.Manifest) { m.Version = version }))
			checked(t, secret(), running, encoding(m), m, want)
		}
	}
}

// P14.3 (ErrManifest): versions and trials that are none, though the tag were correct.
func TestNoManifest(t *testing.T) {
	for version, want := range map[int]api.Errno{0: api.ErrManifest, 1: api.ErrStale, 2: api.OK, 1 << 40: api.OK, 1<<40 + 1: api.ErrManifest, -1: api.ErrManifest} {
		m := sealed(secret(), with(next(first()), func(m *api.Manifest) { m.Version = version }))
		checked(t, secret(), first(), encoding(m), m, want)
	}
	for trial, want := range map[int]api.Errno{0: api.ErrManifest, 1: api.OK, 8: api.OK, 9: api.ErrManifest, -1: api.ErrManifest} {
		m := sealed(secret(), with(next(first()), func(m *api.Manifest) { m.Trial = trial }))
		checked(t, secret(), first(), encoding(m), m, want)
	}
}

// P14.3 (ErrChain): each bit of Prev counts, and each thing of the running manifest; hashes of something else don't help.
func TestChain(t *testing.T) {
	running := sealed(secret(), some())
	want := next(running)
	checked(t, secret(), running, encoding(sealed(secret(), want)), sealed(secret(), want), api.OK)
	for i := range 256 {
		m := sealed(secret(), with(want, func(m *api.Manifest) { m.Prev[i/8] ^= 1 << (i % 8) }))
		checked(t, secret(), running, encoding(m), m, api.ErrChain)
	}
	for _, hash := range []api.Tag{{}, running.Tag, running.Prev, hashOf(first()), hashOf(want), hashOf(some())} {
		m := sealed(secret(), with(want, func(m *api.Manifest) { m.Prev = hash }))
		checked(t, secret(), running, encoding(m), m, api.ErrChain)
	}
	b := encoding(sealed(secret(), want))
	for _, turn := range turns() {
		checked(t, secret(), with(running, turn), b, api.Manifest{}, api.ErrChain)
	}
}

// P14.3 (ErrTag): the key that it was sealed under, and any other one.
func TestOtherKeys(t *testing.T) {
	for i, key := range keys() {
		running := sealed(key, some())
		m := sealed(key, next(running))
		for j, other := range keys() {
			want := api.ErrTag
			if i == j {
				want = api.OK
			}
			checked(t, other, running, encoding(m), m, want)
		}
	}
}

// P14.3 (Check): the running manifest's own tag counts for nothing but its hash.
func TestRunningNotSealed(t *testing.T) {
	for _, tag := range []api.Tag{{}, {1}, first().Tag} {
		running := with(first(), func(m *api.Manifest) { m.Tag = tag })
		m := sealed(secret(), next(running))
		checked(t, secret(), running, encoding(m), m, api.OK)
	}
	running := sealed([]byte("another"), first())
	m := sealed(secret(), next(running))
	checked(t, secret(), running, encoding(m), m, api.OK)
}

// based: a manifest whose configuration faults can make invalid in several ways at once, each leaving the others as they are.
func based() api.Manifest {
	c := api.Config{
		Windows:  []api.Window{{Len: 3, Part: 1}, {Len: 2}},
		Parts:    []api.Partition{part(1, 0, 16, true), part(2, 64, 32, true), part(3, 128, 16, false)},
		Channels: []api.Channel{{ID: 1, From: 1, To: 2, Cap: 2, Size: 4}},
	}
	return sealed(secret(), api.Manifest{Version: 9, Trial: 2, Prev: api.Tag(mixed(32, 5)), Config: c})
}

// A way makes a condition on based's successor fail.
type way struct {
	errno api.Errno
	turn  func(m *api.Manifest)
}

// ways: each condition but the first two, in the order of the errors. Those of a configuration come as several ways.
func ways() [][]way {
	return [][]way{
		{
			{api.ErrChain, func(m *api.Manifest) { m.Prev = api.Tag{} }},
			{api.ErrChain, func(m *api.Manifest) { m.Prev[31] ^= 1 }},
		},
		{
			{api.ErrStale, func(m *api.Manifest) { m.Version = 9 }},
			{api.ErrStale, func(m *api.Manifest) { m.Version = 8 }},
			{api.ErrStale, func(m *api.Manifest) { m.Version = 1 }},
		},
		{
			{api.ErrSchedule, func(m *api.Manifest) { m.Config.Windows = nil }},
			{api.ErrSchedule, func(m *api.Manifest) { m.Config.Windows[1].Part = 6 }},
		},
		{
			{api.ErrParts, func(m *api.Manifest) { m.Config.Parts = append(m.Config.Parts, part(2, 256, 16, true)) }},
			{api.ErrParts, func(m *api.Manifest) { m.Config.Parts[2].ID = 7 }},
		},
		{
			{api.ErrRegion, func(m *api.Manifest) { m.Config.Parts[2].Region.Base = 130 }},
			{api.ErrRegion, func(m *api.Manifest) { m.Config.Parts[2].Image = make([]byte, 17) }},
		},
		{
			{api.ErrOverlap, func(m *api.Manifest) { m.Config.Parts[1].Region.Base = 0 }},
			{api.ErrOverlap, func(m *api.Manifest) { m.Config.Parts[1].Region.Base = 12 }},
		},
		{
			{api.ErrChannel, func(m *api.Manifest) { m.Config.Channels[0].To = 5 }},
			{api.ErrChannel, func(m *api.Manifest) { m.Config.Channels[0].ID = 0 }},
		},
		{
			{api.ErrCompat, func(m *api.Manifest) { m.Config.Parts[0].Region.Size = 20 }},
			{api.ErrCompat, func(m *api.Manifest) { m.Config.Parts[1].Region.Size = 16 }},
		},
	}
}

// P14.3 (the order of the errors): any conditions that fail at once, each in one of its ways: the first one decides, a tag that is not correct ahead of all.
func TestOrder(t *testing.T) {
	all := ways()
	got := map[api.Errno]int{}
	for set := range 1 << len(all) {
		for variant := range 3 {
			m, want := next(based()), api.OK
			for i, l := range all {
				if set>>i&1 == 0 {
					continue
				}
				x := l[variant%len(l)]
				x.turn(&m)
				if want == api.OK {
					want = x.errno
				}
			}
			got[want]++
			m = sealed(secret(), m)
			checked(t, secret(), based(), encoding(m), m, want)
			m.Tag[variant] ^= 1
			checked(t, secret(), based(), encoding(m), m, api.ErrTag)
			checked(t, secret(), based(), encoding(m)[1:], m, api.ErrManifest)
		}
	}
	if len(got) != len(all)+1 {
		t.Errorf("the errors: %v", got)
	}
}

// P14.3 (the order of the errors): bytes that are no manifest's, ahead of all: no version, no trial, no configuration, whatever else is wrong.
func TestNoManifestFirst(t *testing.T) {
	bad := []func(m *api.Manifest){
		func(m *api.Manifest) { m.Version = 0 },
		func(m *api.Manifest) { m.Version = mostVersion + 1 },
		func(m *api.Manifest) { m.Trial = 0 },
		func(m *api.Manifest) { m.Trial = 9 },
		func(m *api.Manifest) { m.Config.Windows = make([]api.Window, 13) },
		func(m *api.Manifest) { m.Config.Parts[0].Image = make([]byte, 513) },
	}
	for _, l := range ways() {
		for _, x := range l {
			for _, turn := range bad {
				m := with(next(based()), x.turn, turn)
				checked(t, secret(), based(), encoding(m), m, api.ErrManifest)
				checked(t, secret(), based(), encoding(sealed(secret(), m)), m, api.ErrManifest)
			}
		}
	}
}

// P14.3 (chapter 12's errors, ErrCompat): what follows the running configuration, and what doesn't.
func TestConfigurationsOfUpdates(t *testing.T) {
	for i, x := range []struct {
		turn func(c *api.Config)
		want api.Errno
	}{
		{func(c *api.Config) {}, api.OK},
		{func(c *api.Config) { *c = plain(1) }, api.OK},
		{func(c *api.Config) { *c = full().Config }, api.ErrCompat},
		{func(c *api.Config) { *c = api.Config{} }, api.ErrSchedule},
		{func(c *api.Config) { c.Parts[0].Region.Base = 512 }, api.OK},
		{func(c *api.Config) { c.Parts[0].Region.Size = 20 }, api.ErrCompat},
		{func(c *api.Config) { c.Parts[0].Region.Size, c.Parts[0].Keep = 20, false }, api.OK},
		{func(c *api.Config) { c.Parts[2].Region.Size = 20 }, api.OK},
		{func(c *api.Config) { c.Parts[2].Region.Size, c.Parts[2].Keep = 20, true }, api.OK},
		{func(c *api.Config) { c.Parts = c.Parts[:2] }, api.OK},
		{func(c *api.Config) { c.Parts = c.Parts[:1] }, api.ErrChannel},
		{func(c *api.Config) { c.Channels = nil }, api.OK},
		{func(c *api.Config) { c.Channels[0].Cap = 5 }, api.ErrChannel},
		{func(c *api.Config) { c.Parts[1].ID = 1 }, api.ErrParts},
		{func(c *api.Config) { c.Parts[1].Region.Size = 12 }, api.ErrRegion},
		{func(c *api.Config) { c.Parts[0].Image = mixed(16, 1) }, api.OK},
		{func(c *api.Config) { c.Parts[0].Image = mixed(17, 1) }, api.ErrRegion},
		{func(c *api.Config) { c.Parts[2].Region.Base = 80 }, api.ErrOverlap},
		{func(c *api.Config) { c.Windows[0].Len = 62 }, api.OK},
		{func(c *api.Config) { c.Windows[0].Len = 63 }, api.ErrSchedule},
	} {
		m := next(based())
		x.turn(&m.Config)
		m = sealed(secret(), m)
		checked(t, secret(), based(), encoding(m), m, x.want)
		if judged(t, secret(), based(), m) != x.want {
			t.Errorf("%d: the definition has another error", i)
		}
	}
}

// P14.3 (ErrCompat): a running manifest whose configuration is invalid; the conditions ahead of that decide first.
func TestRunningInvalid(t *testing.T) {
	for _, faults := range ways()[2:7] {
		for _, fault := range faults {
			running := sealed(secret(), with(based(), fault.turn))
			update := with(next(running), func(m *api.Manifest) { m.Config = based().Config })
			if judged(t, secret(), running, sealed(secret(), update)) != api.ErrCompat || judged(t, secret(), running, update) != api.ErrTag {
				t.Errorf("%d: another error", fault.errno)
			}
			for _, l := range ways() {
				for _, x := range l {
					m := sealed(secret(), with(update, x.turn))
					if got := judged(t, secret(), running, m); got != x.errno {
						t.Errorf("%d, then %d: %d", fault.errno, x.errno, got)
					}
				}
			}
			same := sealed(secret(), next(running))
			checked(t, secret(), running, encoding(same), same, fault.errno)
		}
	}
}

// P14.3, P14.2 (Hash): a running manifest that is not encodable has 32 zero bytes as its hash, and so any other Prev leads to ErrChain; the conditions behind decide the rest.
func TestRunningNotEncodable(t *testing.T) {
	for _, running := range others() {
		for _, prev := range []api.Tag{{1}, {31: 1}, hashOf(first()), api.Tag(mixed(32, 8))} {
			m := sealed(secret(), with(next(first()), func(m *api.Manifest) { m.Prev = prev }))
			checked(t, secret(), running, encoding(m), m, api.ErrChain)
		}
		for _, version := range []int{1, 2, 1<<40 - 1, 1 << 40} {
			for _, c := range []api.Config{plain(1), plain(2), running.Config} {
				m := sealed(secret(), api.Manifest{Version: version, Trial: 1, Config: c})
				judged(t, secret(), running, m)
			}
		}
	}
	for version, want := range map[int]api.Errno{math.MinInt: api.OK, -1: api.OK, 0: api.OK, 1<<40 + 1: api.ErrStale, math.MaxInt: api.ErrStale} {
		m := sealed(secret(), api.Manifest{Version: 1 << 40, Trial: 1, Config: plain(1)})
		checked(t, secret(), api.Manifest{Version: version, Trial: 1, Config: plain(1)}, encoding(m), m, want)
	}
	m := sealed(secret(), api.Manifest{Version: 1, Trial: 1, Config: plain(1)})
	checked(t, secret(), api.Manifest{}, encoding(m), m, api.ErrCompat)
}

// P14.3 (Check): an accepted manifest has all that the bytes say.
func TestAccepted(t *testing.T) {
	running := first()
	for _, c := range []api.Config{plain(1), plain(0), based().Config, some().Config, full().Config} {
		for _, trial := range []int{1, 2, 8} {
			m := sealed(secret(), api.Manifest{Version: 1 << 40, Prev: hashOf(running), Trial: trial, Config: c})
			checked(t, secret(), running, encoding(m), m, api.OK)
		}
	}
}

// P14.3 (Check): every byte of an update, changed: its bytes are no manifest's any more, or its tag is not correct.
func TestChangedBytes(t *testing.T) {
	got := map[api.Errno]int{}
	for _, running := range []api.Manifest{first(), based(), sealed(secret(), some())} {
		b := encoding(sealed(secret(), next(running)))
		for i := range b {
			for _, x := range []byte{1, 0x80, 0xff} {
				c := slices.Clone(b)
				c[i] ^= x
				want := api.ErrManifest
				if _, ok := read(c); ok {
					want = api.ErrTag
				}
				checked(t, secret(), running, c, api.Manifest{}, want)
				got[want]++
			}
		}
		if m, e := manifest.Check(secret(), running, b); e != api.OK || !manifest.Same(m, sealed(secret(), next(running))) {
			t.Errorf("unchanged: %d", e)
		}
	}
	if got[api.ErrTag] < 500 || got[api.ErrManifest] < 100 {
		t.Errorf("the errors: %v", got)
	}
}
