package channel_test

import (
	"bytes"
	"fmt"
	"slices"
	"testing"

	"citadel/api"
	"citadel/channel"
)

// validQueues: empty, with room, with room for one more, full; messages of no bytes and of Size bytes.
func validQueues() []api.Queue {
	wide := made(8, 6, 5, 4, 16)
	return []api.Queue{queue(example()), queue(example(), "a"), queue(example(), "a", "bcd"), queue(example(), "", ""), queue(example(), "", "abc"),
		queue(made(1, 1, 2, 1, 1)), queue(made(1, 1, 2, 1, 1), "a"), queue(made(1, 1, 2, 1, 1), ""), queue(wide), queue(wide, letters(16)),
		queue(wide, "a", letters(16), ""), queue(wide, "a", "b", "c", "d"), queue(wide, letters(16), letters(15), letters(14), letters(13)), queue(wide, "", "", "", "")}
}

func inputs() []api.Queue { return append(validQueues(), invalidQueues()...) }

// A call of channel on a queue and a message; what it returns is written down.
type call struct {
	name string
	do   func(q api.Queue, m []byte) string
}

func calls() []call {
	return []call{
		{"May", func(q api.Queue, m []byte) string { return fmt.Sprint(channel.May(q.Channel)) }},
		{"MayQueue", func(q api.Queue, m []byte) string { return fmt.Sprint(channel.MayQueue(q)) }},
		{"New", func(q api.Queue, m []byte) string {
			got, e := channel.New(q.Channel)
			return fmt.Sprint(told(got), int(e))
		}},
		{"Put", func(q api.Queue, m []byte) string {
			got, e := channel.Put(q, m)
			return fmt.Sprint(told(got), int(e))
		}},
		{"Take", func(q api.Queue, m []byte) string {
			got, rest, e := channel.Take(q)
			return fmt.Sprintf("%q %s %d", got, told(rest), e)
		}},
		{"Same", func(q api.Queue, m []byte) string {
			return fmt.Sprint(channel.Same(q, queue(q.Channel, string(m))), channel.Same(queue(q.Channel, "a"), q), channel.Same(q, q))
		}},
		{"All", func(q api.Queue, m []byte) string {
			return fmt.Sprint(channel.All([]api.Channel{q.Channel}), channel.All([]api.Channel{q.Channel, example()}))
		}},
	}
}

func messages() []string {
	return []string{"", "a", "abc", "abcd", letters(16), letters(17), letters(1 << 12)}
}

// P0.1, P0.2: every call returns, whatever it is given; beside an error stand zero values.
func TestAllArguments(t *testing.T) {
	for _, q := range inputs() {
		may(t, q.Channel, isValid(q.Channel))
		mayQueue(t, q, isValidQueue(q))
		same(t, q, q, true)
		for _, m := range messages() {
			switch {
			case !isValidQueue(q):
				putRefused(t, q, m, api.ErrArg)
			case len(m) > q.Channel.Size:
				putRefused(t, q, m, api.ErrLong)
			default:
				all := append(queue(q.Channel, m).Msgs, q.Msgs...)
				all = append(all[1:], all[0])
				want := api.Queue{Channel: q.Channel, Msgs: all[max(0, len(all)-q.Channel.Cap):]}
				if got, e := channel.Put(q, []byte(m)); told(got) != told(want) || e != api.OK {
					t.Errorf("Put(%s, %q) = %s, %d", told(q), m, told(got), e)
				}
			}
		}
	}
}

// P0.1: lists and messages far longer than a queue may have.
func TestLong(t *testing.T) {
	many := slices.Repeat([][]byte{[]byte("a")}, 1<<20)
	for _, c := range []api.Channel{example(), {}, made(8, 6, 5, 4, 16)} {
		q := api.Queue{Channel: c, Msgs: many}
		if channel.MayQueue(q) || !channel.Same(q, q) || channel.Same(q, queue(c, "a")) {
			t.Errorf("a queue of %v with many messages: %v", c, channel.MayQueue(q))
		}
		if got, e := channel.Put(q, nil); told(got) != told(api.Queue{}) || e != api.ErrArg {
			t.Errorf("Put into many messages: %d", e)
		}
		if m, rest, e := channel.Take(q); m != nil || told(rest) != told(api.Queue{}) || e != api.ErrArg {
			t.Errorf("Take of many messages: %d", e)
		}
		want := api.ErrLong
		if !isValid(c) {
			want = api.ErrArg
		}
		putRefused(t, queue(c), letters(1<<24), want)
		takeRefused(t, queue(c, letters(1<<24)), api.ErrArg)
	}
	all(t, slices.Repeat([]api.Channel{example()}, 1<<8), api.ErrChannel)
	if e := channel.All(slices.Repeat([]api.Channel{example()}, 1<<20)); e != api.ErrChannel {
		t.Errorf("All of many channels: %d", e)
	}
	if e := channel.All(append(slices.Repeat([]api.Channel{example()}, 1<<20), api.Channel{})); e != api.ErrArg {
		t.Errorf("All of many channels and an invalid one: %d", e)
	}
}

// P0.3: calls, those that are refused among them, change nothing that later ones answer.
func TestNothingKept(t *testing.T) {
	for range 3 {
		for _, q := range inputs() {
			for _, c := range calls() {
				for _, m := range messages() {
					c.do(q, []byte(m))
				}
			}
			put(t, queue(example()), "a", "a")
			put(t, queue(example(), "a", "b"), "c", "b", "c")
			take(t, queue(example(), "b", "c"), "b", "c")
			takeRefused(t, queue(example()), api.ErrChannel)
			putRefused(t, queue(example()), "abcd", api.ErrLong)
			may(t, example(), true)
		}
	}
}

// laid returns the queue in longer memory of its own, and a text of all of that memory.
func laid(q api.Queue) (in api.Queue, text func() string) {
	memory := slices.Repeat([]byte{'#'}, 64)
	for _, m := range q.Msgs {
		memory = append(append(memory, m...), slices.Repeat([]byte{'#'}, 64)...)
	}
	list := slices.Repeat([][]byte{memory[:1]}, len(q.Msgs)+40)
	at := 64
	for i, m := range q.Msgs {
		list[4+i] = memory[at : at+len(m)]
		at += len(m) + 64
	}
	return api.Queue{Channel: q.Channel, Msgs: list[4 : 4+len(q.Msgs)]}, func() string { return fmt.Sprintf("%q %q", memory, list) }
}

// P0.4: what is passed is not changed, nor is what lies beyond its length, which counts for nothing.
func TestArgumentsUnchanged(t *testing.T) {
	for _, q := range inputs() {
		for _, c := range calls() {
			for _, m := range messages() {
				in, text := laid(q)
				sent := append([]byte(m), slices.Repeat([]byte{'#'}, 64)...)
				want, wantSent := text(), string(sent)
				if got := c.do(in, sent[:len(m)]); got != c.do(q, []byte(m)) {
					t.Errorf("%s(%.200s, %.40q) depends on what lies beyond it: %.200s", c.name, told(q), m, got)
				}
				if text() != want || string(sent) != wantSent {
					t.Errorf("%s(%.200s, %.40q) changed what was passed", c.name, told(q), m)
				}
			}
		}
	}
}

// scrawl writes over all the memory of q, its capacity with it.
func scrawl(q api.Queue) {
	for _, m := range q.Msgs {
		scrawlBytes(m)
	}
	all := q.Msgs[:cap(q.Msgs)]
	for i := range all {
		all[i] = []byte("scrawled")
	}
}

func scrawlBytes(m []byte) {
	m = m[:cap(m)]
	for i := range m {
		m[i] = '~'
	}
}

// P0.4: what is passed is not kept: it may be written over, while what was returned stays.
func TestArgumentsNotKept(t *testing.T) {
	for _, q := range validQueues() {
		for _, m := range messages() {
			in, _ := laid(q)
			sent := []byte(m)
			after, _ := channel.Put(in, sent)
			first, rest, _ := channel.Take(in)
			want := fmt.Sprintf("%s %q %s", told(after), first, told(rest))
			scrawl(in)
			scrawlBytes(sent)
			if got := fmt.Sprintf("%s %q %s", told(after), first, told(rest)); got != want {
				t.Errorf("%s became %s", want, got)
			}
		}
	}
}

// P0.4: what is returned is new memory, with its capacity: writing there changes neither what was passed nor another answer.
func TestAnswersAreNew(t *testing.T) {
	for _, q := range validQueues() {
		for _, m := range messages() {
			in, text := laid(q)
			sent := append([]byte(m), slices.Repeat([]byte{'#'}, 64)...)
			want, wantSent := text(), string(sent)
			a, _ := channel.Put(in, sent[:len(m)])
			b, _ := channel.Put(in, sent[:len(m)])
			firstA, restA, _ := channel.Take(in)
			firstB, restB, _ := channel.Take(in)
			wantB := fmt.Sprintf("%s %q %s", told(b), firstB, told(restB))
			scrawl(a)
			scrawl(restA)
			scrawlBytes(firstA)
			if text() != want || string(sent) != wantSent {
				t.Errorf("the answers for %s, %.40q share memory with it", told(q), m)
			}
			if got := fmt.Sprintf("%s %q %s", told(b), firstB, told(restB)); got != wantB {
				t.Errorf("%s became %s", wantB, got)
			}
		}
	}
}

// P0.4: no two messages of an answer share memory, even where those that were passed do; nor do the message and the rest.
func TestMessagesApart(t *testing.T) {
	for capacity := 1; capacity <= 4; capacity++ {
		for count := range capacity + 1 {
			one := []byte("abc")
			q := api.Queue{Channel: made(1, 1, 2, capacity, 3), Msgs: slices.Repeat([][]byte{one}, count)}
			after, _ := channel.Put(q, one)
			apart(t, after.Msgs)
			first, rest, _ := channel.Take(q)
			apart(t, append([][]byte{first}, rest.Msgs...))
			if string(one) != "abc" {
				t.Errorf("the message that was passed became %q", one)
			}
		}
	}
}

func apart(t *testing.T, l [][]byte) {
	t.Helper()
	for i := range l {
		scrawlBytes(l[i])
		for j := range l {
			if j > i && !bytes.Equal(l[j], []byte("abc")) {
				t.Errorf("message %d shares memory with message %d: %q", j, i, l)
			}
		}
	}
}

// P0.4: writing over the message that Take returns, or over its rest with the capacity, leaves the other one as it was.
func TestMessageAndRestApart(t *testing.T) {
	for _, q := range validQueues() {
		if len(q.Msgs) == 0 {
			continue
		}
		m, rest, _ := channel.Take(q)
		want := told(rest)
		scrawlBytes(m)
		if told(rest) != want {
			t.Errorf("the rest of %s became %s", told(q), told(rest))
		}
		m, rest, _ = channel.Take(q)
		scrawl(rest)
		if !bytes.Equal(m, q.Msgs[0]) {
			t.Errorf("the message of %s became %q", told(q), m)
		}
	}
}

// P0.4: nil and empty slices are equivalent: messages, lists of them, lists of channels.
func TestNilIsEmpty(t *testing.T) {
	c := example()
	pairs := [][2]api.Queue{
		{{Channel: c}, {Channel: c, Msgs: [][]byte{}}},
		{{Channel: c, Msgs: [][]byte{nil}}, {Channel: c, Msgs: [][]byte{{}}}},
		{{Channel: c, Msgs: [][]byte{nil, {}}}, {Channel: c, Msgs: [][]byte{{}, nil}}},
		{{}, {Msgs: [][]byte{}}},
	}
	for _, p := range pairs {
		same(t, p[0], p[1], true)
		for _, c := range calls() {
			if a, b := c.do(p[0], nil), c.do(p[1], []byte{}); a != b {
				t.Errorf("%s: nil and empty differ: %s, %s", c.name, a, b)
			}
		}
	}
	all(t, nil, api.OK)
	all(t, []api.Channel{}, api.OK)
	all(t, make([]api.Channel, 3)[:0], api.OK)
}

// P0.4: All neither changes the channels, nor counts those beyond the length, nor keeps any.
func TestAllLeavesChannels(t *testing.T) {
	for _, ids := range [][]int{{1, 2, 3}, {3, 2, 1}, {1, 9, 2}, nil} {
		for _, around := range [][]int{{1}, {8}, {9}, {0}} {
			long := slices.Concat(channels(around...), channels(ids...), channels(around...))
			want := slices.Clone(long)
			part := long[1 : 1+len(ids)]
			if a, b := channel.All(part), channel.All(channels(ids...)); a != b || !slices.Equal(long, want) {
				t.Errorf("All(%v) among %v = %d, not %d", part, long, a, b)
			}
			if len(part) > 0 {
				part[0] = api.Channel{}
				all(t, part, api.ErrArg)
			}
			all(t, channels(1, 2), api.OK)
		}
	}
}
