package manifest_test

import (
	"bytes"
	"math/rand"
	"slices"
	"testing"

	"citadel/api"
	"citadel/manifest"
)

// drawnNumber returns a number that is small as often as not.
func drawnNumber(from *rand.Rand) int {
	if from.Intn(2) == 0 {
		return from.Intn(7)
	}
	return int(from.Uint64()) >> from.Intn(64)
}

// drawn returns an encodable manifest with anything in its fields.
func drawn(from *rand.Rand) api.Manifest {
	m := api.Manifest{Version: 1 + int(from.Int63n(mostVersion)>>from.Intn(40)), Trial: 1 + from.Intn(mostTrial)}
	from.Read(m.Prev[:])
	from.Read(m.Tag[:])
	c := &m.Config
	c.Windows = make([]api.Window, from.Intn(mostWindows+1))
	c.Parts = make([]api.Partition, from.Intn(mostParts+1))
	c.Channels = make([]api.Channel, from.Intn(mostChannels+1))
	for _, n := range numbers(c) {
		*n = drawnNumber(from)
	}
	for i := range c.Parts {
		c.Parts[i].Keep = from.Intn(2) == 1
		c.Parts[i].Image = make([]byte, from.Intn(40))
		from.Read(c.Parts[i].Image)
	}
	return m
}

// roundTrip parses what was printed and prints what was parsed.
func roundTrip(t *testing.T, m api.Manifest) {
	t.Helper()
	b, e := manifest.Print(m)
	if e != api.OK || !bytes.Equal(b, encoding(m)) {
		t.Errorf("Print(%.200s) = %.200x, %d", told(m), b, e)
	}
	got, e := manifest.Parse(b)
	if e != api.OK || told(got) != told(m) || !manifest.Same(m, got) || !manifest.Can(got) {
		t.Errorf("Parse of what was printed of %.200s = %.200s, %d", told(m), told(got), e)
	}
	again, e := manifest.Print(got)
	if e != api.OK || !bytes.Equal(again, b) {
		t.Errorf("Print of what was parsed of %.200s = %.200x, %d", told(m), again, e)
	}
	if manifest.Hash(got) != manifest.Hash(m) {
		t.Errorf("what was parsed of %.200s has another hash", told(m))
	}
}

// P14.4 (round trip): of all kinds of manifests, and of drawn ones, sealed and not.
func TestRoundTrip(t *testing.T) {
	l := encodables()
	for _, turn := range turns() {
		l = append(l, with(some(), turn))
	}
	from := rand.New(rand.NewSource(144))
	for range 500 {
		l = append(l, drawn(from))
	}
	for _, m := range l {
		roundTrip(t, m)
		roundTrip(t, manifest.Seal(secret(), m))
	}
}

// P14.4 (round trip): the encoding of a parsed manifest is the bytes that were parsed; drawn bytes, which are near an encoding.
func TestRoundTripOfBytes(t *testing.T) {
	from := rand.New(rand.NewSource(145))
	got := map[bool]int{}
	for range 4000 {
		b := encoding(drawn(from))
		for range from.Intn(3) {
			switch at := from.Intn(len(b)); from.Intn(5) {
			case 0:
				b[at] = byte(from.Intn(3))
			case 1:
				b[at] ^= 1 << from.Intn(8)
			case 2:
				b = slices.Delete(b, at, min(at+1+from.Intn(16), len(b)))
			case 3:
				b = slices.Insert(b, at, make([]byte, 1+from.Intn(16))...)
			case 4:
				b = append(b, mixed(from.Intn(3), from.Uint32())...)
			}
		}
		ok := held(t, b)
		got[ok]++
		m, e := manifest.Parse(b)
		if (e == api.OK) != ok {
			t.Errorf("Parse(%.300x): %d", b, e)
		}
		if again, e := manifest.Print(m); ok && (e != api.OK || !bytes.Equal(again, b)) {
			t.Errorf("Print of what was parsed of %.300x = %.300x, %d", b, again, e)
		}
	}
	if got[true] < 1000 || got[false] < 500 {
		t.Errorf("encodings, and others: %v", got)
	}
}

// P14.5 (integrity): a sealed manifest has the correct tag; with any field changed, each once, it doesn't.
func TestIntegrity(t *testing.T) {
	for _, key := range [][]byte{nil, secret(), mixed(64, 1), mixed(65, 1)} {
		m := manifest.Seal(key, some())
		right(t, key, m, true)
		for _, turn := range turns() {
			right(t, key, with(m, turn), false)
		}
		for i := range 256 {
			right(t, key, with(m, func(m *api.Manifest) { m.Prev[i/8] ^= 1 << (i % 8) }), false)
		}
		for i := range 512 {
			right(t, key, with(m, func(m *api.Manifest) { m.Config.Parts[2].Image[i] ^= 1 }), false)
		}
		for bit := range 41 {
			right(t, key, with(m, func(m *api.Manifest) { m.Version ^= 1 << bit }), false)
		}
	}
}

// P14.5 (integrity): drawn manifests, each with the tag of another one and with its own.
func TestIntegrityDrawn(t *testing.T) {
	from := rand.New(rand.NewSource(146))
	last := manifest.Seal(secret(), some())
	for range 300 {
		m := manifest.Seal(secret(), drawn(from))
		right(t, secret(), m, true)
		right(t, []byte("kez"), m, false)
		own := m.Tag
		m.Tag = last.Tag
		right(t, secret(), m, false)
		m.Tag = own
		last = m
	}
}

// P14.6 (no replay): a manifest that was accepted leads to ErrChain when it is the running one, and so it does behind any that followed it; each takes the place of the one ahead alone.
func TestNoReplay(t *testing.T) {
	for _, running := range []api.Manifest{first(), based(), sealed(secret(), some())} {
		chain := []api.Manifest{running}
		for i := range 8 {
			m := next(chain[i])
			m.Version += i % 3
			m.Trial = i + 1
			m.Config.Windows[0].Len++
			chain = append(chain, manifest.Seal(secret(), m))
		}
		for i, was := range chain {
			for j, m := range chain {
				b, _ := manifest.Print(m)
				want := api.ErrChain
				if j == i+1 {
					want = api.OK
				}
				checked(t, secret(), was, b, m, want)
			}
		}
	}
}

// P14.6 (no replay): what was accepted, once it runs, as it came out of Check.
func TestReplayOfAnswer(t *testing.T) {
	b, _ := manifest.Print(manifest.Seal(secret(), next(first())))
	m, e := manifest.Check(secret(), first(), b)
	if e != api.OK {
		t.Fatal(e)
	}
	checked(t, secret(), m, b, m, api.ErrChain)
	again := manifest.Seal(secret(), api.Manifest{Version: 3, Prev: manifest.Hash(m), Trial: 1, Config: m.Config})
	back, _ := manifest.Print(again)
	checked(t, secret(), m, back, again, api.OK)
	checked(t, secret(), again, b, m, api.ErrChain)
}

// P14.3: drawn updates of drawn manifests, near what is accepted, against the definition.
func TestDrawnUpdates(t *testing.T) {
	from := rand.New(rand.NewSource(143))
	got := map[api.Errno]int{}
	bases := []api.Manifest{first(), based(), sealed(secret(), some())}
	all := ways()
	for range 4000 {
		running := bases[from.Intn(len(bases))]
		m := next(running)
		if from.Intn(3) == 0 && running.Version == 9 {
			l := all[from.Intn(len(all))]
			l[from.Intn(len(l))].turn(&m)
		}
		for range from.Intn(3) {
			list := numbers(&m.Config)
			*list[from.Intn(len(list))] += from.Intn(9) - 4
		}
		m = sealed(secret(), m)
		if from.Intn(8) == 0 {
			m.Tag[from.Intn(32)] ^= 1
		}
		got[judged(t, secret(), running, m)]++
	}
	if len(got) != 10 {
		t.Errorf("the errors: %v", got)
	}
}
