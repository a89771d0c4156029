package channel_test

import (
	"slices"
	"testing"

	"citadel/api"
	"citadel/channel"
)

// put holds Put to the queue that is wanted.
func put(t *testing.T, q api.Queue, m string, want ...string) {
	t.Helper()
	got, e := channel.Put(q, []byte(m))
	if e != api.OK || told(got) != told(queue(q.Channel, want...)) {
		t.Errorf("Put(%s, %q) = %s, %d, want %q", told(q), m, told(got), e, want)
	}
}

func putRefused(t *testing.T, q api.Queue, m string, want api.Errno) {
	t.Helper()
	if got, e := channel.Put(q, []byte(m)); told(got) != told(api.Queue{}) || got.Msgs != nil || e != want {
		t.Errorf("Put(%.200s, %.40q) = %s, %d, want error %d", told(q), m, told(got), e, want)
	}
}

// take holds Take to the message and the rest that are wanted.
func take(t *testing.T, q api.Queue, m string, rest ...string) {
	t.Helper()
	got, left, e := channel.Take(q)
	if e != api.OK || string(got) != m || told(left) != told(queue(q.Channel, rest...)) {
		t.Errorf("Take(%s) = %q, %s, %d, want %q, %q", told(q), got, told(left), e, m, rest)
	}
}

func takeRefused(t *testing.T, q api.Queue, want api.Errno) {
	t.Helper()
	if m, rest, e := channel.Take(q); m != nil || told(rest) != told(api.Queue{}) || rest.Msgs != nil || e != want {
		t.Errorf("Take(%.200s) = %q, %s, %d, want error %d", told(q), m, told(rest), e, want)
	}
}

// P10.3 (Put), P10.4 (Take): the chapter's examples.
func TestPutAndTakeExamples(t *testing.T) {
	q, _ := channel.New(example())
	putRefused(t, q, "abcd", api.ErrLong)
	takeRefused(t, q, api.ErrChannel)
	for _, m := range []string{"a", "b", "c"} {
		after, e := channel.Put(q, []byte(m))
		if e != api.OK {
			t.Errorf("Put(%s, %q): %d", told(q), m, e)
		}
		q = after
	}
	if told(q) != told(queue(example(), "b", "c")) {
		t.Errorf("the queue holds %s", told(q))
	}
	take(t, q, "b", "c")
	_, q, _ = channel.Take(q)
	take(t, q, "c")
	_, q, _ = channel.Take(q)
	takeRefused(t, q, api.ErrChannel)
}

// P10.3 (Put): a queue that is empty, one with room, one with room for one more, one that is full.
func TestPut(t *testing.T) {
	c := made(2, 3, 1, 4, 2)
	put(t, queue(c), "v", "v")
	put(t, queue(c, "w"), "v", "w", "v")
	put(t, queue(c, "w", "x"), "v", "w", "x", "v")
	put(t, queue(c, "w", "x", "y"), "v", "w", "x", "y", "v")
	put(t, queue(c, "w", "x", "y", "z"), "v", "x", "y", "z", "v")
	put(t, queue(c, "v", "v", "v", "v"), "v", "v", "v", "v", "v")
	put(t, queue(example()), "a", "a")
	put(t, queue(example(), "a"), "b", "a", "b")
	put(t, queue(example(), "a", "b"), "c", "b", "c")
}

// P10.3 (Put): where Cap is 1, each message takes the place of the one before it.
func TestPutWithCapOne(t *testing.T) {
	c := made(1, 1, 2, 1, 3)
	put(t, queue(c), "a", "a")
	put(t, queue(c, "a"), "b", "b")
	put(t, queue(c, "a"), "a", "a")
	put(t, queue(c, "abc"), "", "")
	put(t, queue(c, ""), "abc", "abc")
	putRefused(t, queue(c, "a"), "abcd", api.ErrLong)
}

// P10.3 (Put): a message of no bytes is one too; it takes a place, and it is discarded as the oldest one.
func TestPutEmpty(t *testing.T) {
	put(t, queue(example()), "", "")
	put(t, queue(example(), ""), "", "", "")
	put(t, queue(example(), "", ""), "", "", "")
	put(t, queue(example(), "", "b"), "a", "b", "a")
	put(t, queue(example(), "a", "b"), "", "b", "")
	after, e := channel.Put(queue(example()), nil)
	if e != api.OK || told(after) != told(queue(example(), "")) {
		t.Errorf("Put of nil: %s, %d", told(after), e)
	}
}

// P10.3 (Put): messages of every length up to Size, and longer ones, whatever the queue holds.
func TestPutLengths(t *testing.T) {
	for size := 1; size <= 16; size++ {
		c := made(4, 6, 1, 2, size)
		for _, held := range [][]string{nil, {"a"}, {letters(size)}, {"", letters(size)}, {"a", "b"}} {
			for n := range 20 {
				if n > size {
					putRefused(t, queue(c, held...), letters(n), api.ErrLong)
					continue
				}
				want := append(slices.Clone(held), letters(n))
				put(t, queue(c, held...), letters(n), want[max(0, len(want)-2):]...)
			}
			for _, n := range []int{255, 256, 257, 1 << 16, 1<<16 + 1, 1 << 20} {
				putRefused(t, queue(c, held...), letters(n), api.ErrLong)
			}
		}
	}
}

// P10.3 (Put): every byte's value, at every place of a message.
func TestPutEveryByte(t *testing.T) {
	c := made(1, 1, 2, 1, 16)
	for x := range 256 {
		for n := 1; n <= 16; n++ {
			m := []byte(letters(n))
			m[n-1], m[n/2], m[0] = byte(x+1), byte(x+2), byte(x)
			put(t, queue(c), string(m), string(m))
			take(t, queue(c, string(m)), string(m))
		}
	}
}

// invalidQueues: one step behind each edge, the channel's and the queue's.
func invalidQueues() []api.Queue {
	l := []api.Queue{{}, queue(example(), "a", "b", "c"), queue(example(), "abcd"), queue(example(), "a", "abcd"), queue(example(), "abcd", "a"),
		queue(made(1, 1, 2, 1, 1), "a", "b"), queue(made(8, 6, 5, 4, 16), "", "", "", "", ""), queue(made(8, 6, 5, 4, 16), letters(17)),
		queue(example(), letters(1<<16)), queue(example(), slices.Repeat([]string{"a"}, 258)...)}
	for _, c := range []api.Channel{made(0, 1, 2, 2, 3), made(9, 1, 2, 2, 3), made(1, 0, 2, 2, 3), made(1, 7, 2, 2, 3), made(1, 1, 0, 2, 3), made(1, 1, 7, 2, 3),
		made(1, 2, 2, 2, 3), made(1, 1, 2, 0, 3), made(1, 1, 2, 5, 3), made(1, 1, 2, 2, 0), made(1, 1, 2, 2, 17)} {
		l = append(l, queue(c), queue(c, "a"), queue(c, "a", "b"))
	}
	for _, x := range greatest() {
		for field := range 5 {
			l = append(l, queue(with(example(), field, x)), queue(with(example(), field, x), "a"))
		}
	}
	return l
}

// P10.3 (Put), P10.4 (Take), P0.2: an invalid queue is refused first: ahead of a message that is too long, and of there being none.
func TestInvalidQueues(t *testing.T) {
	for _, q := range invalidQueues() {
		for _, m := range []string{"", "a", "abc", "abcd", letters(16), letters(17), letters(1 << 16)} {
			putRefused(t, q, m, api.ErrArg)
		}
		takeRefused(t, q, api.ErrArg)
		mayQueue(t, q, false)
	}
}

// P10.4 (Take): a queue with no message, with one, with several.
func TestTake(t *testing.T) {
	c := made(7, 5, 6, 4, 3)
	takeRefused(t, queue(c), api.ErrChannel)
	take(t, queue(c, "a"), "a")
	take(t, queue(c, "a", "b"), "a", "b")
	take(t, queue(c, "a", "b", "c"), "a", "b", "c")
	take(t, queue(c, "a", "b", "c", "d"), "a", "b", "c", "d")
	take(t, queue(c, "d", "c", "b", "a"), "d", "c", "b", "a")
	take(t, queue(c, "a", "a", "a"), "a", "a", "a")
	take(t, queue(made(1, 1, 2, 1, 1), "a"), "a")
	takeRefused(t, queue(made(1, 1, 2, 1, 1)), api.ErrChannel)
	takeRefused(t, queue(made(8, 6, 5, 4, 16)), api.ErrChannel)
}

// P10.4 (Take): a message of no bytes is taken too, and it is not the same as no message.
func TestTakeEmpty(t *testing.T) {
	take(t, queue(example(), ""), "")
	take(t, queue(example(), "", "a"), "", "a")
	take(t, queue(example(), "a", ""), "a", "")
	take(t, queue(example(), "", ""), "", "")
	take(t, api.Queue{Channel: example(), Msgs: [][]byte{nil}}, "")
	take(t, api.Queue{Channel: example(), Msgs: [][]byte{nil, {'a'}}}, "", "a")
}

// P10.4 (Take): messages of every length that a channel may have.
func TestTakeLengths(t *testing.T) {
	for size := 1; size <= 16; size++ {
		c := made(4, 6, 1, 2, size)
		for n := range size + 1 {
			take(t, queue(c, letters(n)), letters(n))
			take(t, queue(c, letters(n), "b"), letters(n), "b")
			take(t, queue(c, "b", letters(n)), "b", letters(n))
		}
	}
}
