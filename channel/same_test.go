package channel_test

import (
	"slices"
	"testing"

	"citadel/api"
	"citadel/channel"
)

func same(t *testing.T, a, b api.Queue, want bool) {
	t.Helper()
	if got := channel.Same(a, b); got != want {
		t.Errorf("Same(%.200s, %.200s) = %v", told(a), told(b), got)
	}
	if got := channel.Same(b, a); got != want {
		t.Errorf("Same(%.200s, %.200s) = %v", told(b), told(a), got)
	}
}

// P10.1 (Same): queues that are the same, in memory of their own and in the same memory.
func TestSame(t *testing.T) {
	for _, l := range [][]string{nil, {""}, {"a"}, {"abc"}, {"a", ""}, {"", "a"}, {"a", "a"}, {"", ""}, {"b", "a"}} {
		q := queue(example(), l...)
		same(t, q, q, true)
		same(t, q, queue(example(), l...), true)
	}
}

// P10.1 (Same): a channel that differs in one field.
func TestSameOtherChannel(t *testing.T) {
	for _, c := range []api.Channel{example(), made(3, 3, 4, 3, 7), {}} {
		for _, l := range [][]string{nil, {""}, {"a", "b"}} {
			for field := range 5 {
				for _, x := range append(greatest(), 0, 1, 2, 3, 4, 5, 6, 7, 8) {
					other := with(c, field, x)
					same(t, queue(c, l...), queue(other, l...), other == c)
				}
			}
		}
	}
}

// P10.1 (Same): how many messages there are, in one queue more than in the other one.
func TestSameOtherCount(t *testing.T) {
	c := made(1, 1, 2, 4, 3)
	for a := range 6 {
		for b := range 6 {
			for _, m := range []string{"", "a", "abc"} {
				same(t, queue(c, slices.Repeat([]string{m}, a)...), queue(c, slices.Repeat([]string{m}, b)...), a == b)
			}
		}
	}
}

// P10.1 (Same): one byte of one message, at every place.
func TestSameOtherByte(t *testing.T) {
	l := []string{"abc", "def", "g", "hij"}
	c := made(1, 1, 2, 4, 3)
	for i, m := range l {
		for j := range m {
			for flip := 1; flip < 256; flip++ {
				other := queue(c, l...)
				other.Msgs[i][j] ^= byte(flip)
				same(t, queue(c, l...), other, false)
			}
		}
	}
}

// P10.1 (Same): messages in another order, of another length, or cut in other places.
func TestSameOtherMessages(t *testing.T) {
	c := made(1, 1, 2, 4, 16)
	same(t, queue(c, "a", "b"), queue(c, "b", "a"), false)
	same(t, queue(c, "a", "b", "c"), queue(c, "b", "c", "a"), false)
	same(t, queue(c, "a", "b", "c", "d"), queue(c, "a", "c", "b", "d"), false)
	same(t, queue(c, "a", ""), queue(c, "", "a"), false)
	same(t, queue(c, "ab", "c"), queue(c, "a", "bc"), false)
	same(t, queue(c, "abc"), queue(c, "a", "bc"), false)
	same(t, queue(c, "abc"), queue(c, "abc", ""), false)
	same(t, queue(c, ""), queue(c), false)
	same(t, queue(c, "ab"), queue(c, "a"), false)
	same(t, queue(c, "a\x00"), queue(c, "a"), false)
	same(t, queue(c, "\x00"), queue(c, ""), false)
	same(t, queue(c, "a"), queue(c, "A"), false)
	same(t, queue(c, "\xff"), queue(c, "\xfe"), false)
}

// P10.1 (Same): queues that are invalid are the same or not as valid ones are.
func TestSameOfInvalid(t *testing.T) {
	for _, c := range []api.Channel{{}, made(9, 1, 1, 5, 0), made(-1, -2, -3, -4, -5), example()} {
		for _, l := range [][]string{nil, {"abcd"}, {"a", "b", "c"}, {"", "", "", "", "", ""}, {letters(17), letters(300)}} {
			same(t, queue(c, l...), queue(c, l...), true)
			same(t, queue(c, l...), queue(c, append(l[:len(l):len(l)], "")...), false)
			same(t, queue(c, l...), queue(with(c, 3, 7), l...), false)
		}
	}
	same(t, queue(example(), "abcd"), queue(example(), "abce"), false)
	same(t, queue(example(), "a", "b", "c"), queue(example(), "a", "b", "d"), false)
	same(t, queue(example(), letters(300)), queue(example(), letters(301)), false)
	same(t, api.Queue{}, api.Queue{}, true)
}
