package channel_test

import (
	"fmt"
	"math"
	"slices"
	"strings"
	"testing"

	"citadel/api"
	"citadel/channel"
)

// example: the channel of the chapter's examples.
func example() api.Channel { return made(1, 1, 2, 2, 3) }

func made(id, from, to, capacity, size int) api.Channel {
	return api.Channel{ID: id, From: from, To: to, Cap: capacity, Size: size}
}

// queue returns a queue whose channel is c, with these messages.
func queue(c api.Channel, messages ...string) api.Queue {
	q := api.Queue{Channel: c}
	for _, m := range messages {
		q.Msgs = append(q.Msgs, []byte(m))
	}
	return q
}

// told writes a queue down: equal texts are equal queues, nil or empty.
func told(q api.Queue) string { return fmt.Sprintf("%v %q", q.Channel, q.Msgs) }

// letters returns a message of so many bytes.
func letters(n int) string { return strings.Repeat("m", n) }

// with returns c with one of its fields replaced.
func with(c api.Channel, field, x int) api.Channel {
	*[]*int{&c.ID, &c.From, &c.To, &c.Cap, &c.Size}[field] = x
	return c
}

// greatest: numbers at their least and greatest, and those that become small ones where they are cut.
func greatest() []int {
	l := []int{math.MinInt, math.MinInt + 1, math.MinInt + 2, math.MinInt + 16, math.MaxInt, math.MaxInt - 1, math.MaxInt - 16}
	for _, x := range []int{1 << 7, 1 << 8, 1 << 15, 1 << 16, 1 << 31, 1 << 32, 1 << 48, 1 << 62} {
		for _, off := range []int{-1, 0, 1, 2, 4, 6} {
			l = append(l, x+off, -x+off)
		}
	}
	return l
}

// isValid writes out which channels are valid: nothing of the program's own is asked for it.
func isValid(c api.Channel) bool {
	ids, parts, caps := []int{1, 2, 3, 4, 5, 6, 7, 8}, []int{1, 2, 3, 4, 5, 6}, []int{1, 2, 3, 4}
	sizes := []int{1, 2, 3, 4, 5, 6, 7, 8, 9, 10, 11, 12, 13, 14, 15, 16}
	return slices.Contains(ids, c.ID) && slices.Contains(parts, c.From) && slices.Contains(parts, c.To) && c.From != c.To &&
		slices.Contains(caps, c.Cap) && slices.Contains(sizes, c.Size)
}

func isValidQueue(q api.Queue) bool {
	fits := isValid(q.Channel) && len(q.Msgs) <= q.Channel.Cap
	for _, m := range q.Msgs {
		fits = fits && len(m) <= q.Channel.Size
	}
	return fits
}

// may holds May and New to what is wanted of c.
func may(t *testing.T, c api.Channel, want bool) {
	t.Helper()
	if got := channel.May(c); got != want {
		t.Errorf("May(%v) = %v", c, got)
	}
	q, e := channel.New(c)
	if want && (told(q) != told(queue(c)) || e != api.OK) {
		t.Errorf("New(%v) = %s, %d", c, told(q), e)
	}
	if !want && (told(q) != told(api.Queue{}) || e != api.ErrArg) {
		t.Errorf("New(%v) = %s, %d", c, told(q), e)
	}
}

func mayQueue(t *testing.T, q api.Queue, want bool) {
	t.Helper()
	if got := channel.MayQueue(q); got != want {
		t.Errorf("MayQueue(%.200s) = %v", told(q), got)
	}
}

// P10.1 (May), P10.2 (New): the chapter's examples, and the error's number.
func TestExamples(t *testing.T) {
	may(t, example(), true)
	may(t, made(9, 1, 2, 2, 3), false)
	may(t, made(1, 1, 1, 2, 3), false)
	may(t, made(1, 1, 2, 5, 3), false)
	may(t, api.Channel{}, false)
	if api.ErrArg != 2 || api.ErrLong != 3 || api.ErrChannel != 100 {
		t.Errorf("the errors are %d, %d, %d", api.ErrArg, api.ErrLong, api.ErrChannel)
	}
}

// P10.1 (May), P10.2 (New): the edges of each field, the others being ordinary.
func TestEdges(t *testing.T) {
	edges := []struct {
		field       int
		first, last int
	}{{0, 1, 8}, {1, 1, 6}, {2, 1, 6}, {3, 1, 4}, {4, 1, 16}}
	for _, edge := range edges {
		for x := -20; x <= 300; x++ {
			want := edge.first <= x && x <= edge.last
			c := with(made(3, 3, 4, 2, 5), edge.field, x)
			may(t, c, want && c.From != c.To)
		}
	}
}

// P10.1 (May), P10.2 (New): the edges of all fields together.
func TestEdgesTogether(t *testing.T) {
	for _, id := range []int{0, 1, 8, 9} {
		for _, from := range []int{0, 1, 6, 7} {
			for _, to := range []int{0, 1, 6, 7} {
				for _, capacity := range []int{0, 1, 4, 5} {
					for _, size := range []int{0, 1, 16, 17} {
						c := made(id, from, to, capacity, size)
						may(t, c, isValid(c))
					}
				}
			}
		}
	}
}

// P10.1 (May), P10.2 (New): every From with every To; a channel leads to another partition.
func TestEnds(t *testing.T) {
	for from := -2; from <= 9; from++ {
		for to := -2; to <= 9; to++ {
			want := 1 <= from && from <= 6 && 1 <= to && to <= 6 && from != to
			may(t, made(8, from, to, 4, 16), want)
			may(t, made(1, from, to, 1, 1), want)
		}
	}
}

// P10.1 (May), P10.2 (New): each field at its least and greatest, and both ends there.
func TestGreatest(t *testing.T) {
	for _, x := range greatest() {
		for field := range 5 {
			may(t, with(example(), field, x), false)
			may(t, with(made(8, 6, 1, 4, 16), field, x), false)
		}
		may(t, made(1, x, x, 1, 1), false)
		may(t, made(1, x, -x, 1, 1), false)
		may(t, made(x, x, x+1, x, x), false)
	}
}

// P10.1 (MayQueue): as many messages as Cap, fewer, and one more.
func TestHowManyMessages(t *testing.T) {
	for capacity := 1; capacity <= 4; capacity++ {
		for count := range 12 {
			for _, m := range []string{"", "a", "abc"} {
				q := queue(made(1, 1, 2, capacity, 3), slices.Repeat([]string{m}, count)...)
				mayQueue(t, q, count <= capacity)
			}
		}
	}
	for _, count := range []int{255, 256, 257, 1 << 16, 1<<16 + 1} {
		mayQueue(t, queue(example(), slices.Repeat([]string{"a"}, count)...), false)
	}
}

// P10.1 (MayQueue): messages of no bytes, of just Size bytes, and of one more.
func TestHowLongMessages(t *testing.T) {
	for size := 1; size <= 16; size++ {
		for n := range 20 {
			c := made(8, 6, 5, 4, size)
			mayQueue(t, queue(c, letters(n)), n <= size)
			mayQueue(t, queue(c, letters(n), letters(n), letters(n), letters(n)), n <= size)
		}
		for _, n := range []int{255, 256, 257, 272, 1 << 16, 1<<16 + 1} {
			mayQueue(t, queue(made(8, 6, 5, 4, size), letters(n)), false)
		}
	}
}

// P10.1 (MayQueue): one message that is too long, at every place among others that are not.
func TestOneTooLong(t *testing.T) {
	for count := 1; count <= 4; count++ {
		for at := range count {
			for _, other := range []string{"", "a", "abc"} {
				l := slices.Repeat([]string{other}, count)
				mayQueue(t, queue(made(1, 1, 2, 4, 3), l...), true)
				l[at] = "abcd"
				mayQueue(t, queue(made(1, 1, 2, 4, 3), l...), false)
			}
		}
	}
}

// P10.1 (MayQueue): a queue whose channel is invalid, with messages and without.
func TestQueueOfInvalidChannel(t *testing.T) {
	wrong := []api.Channel{{}, made(0, 1, 2, 2, 3), made(9, 1, 2, 2, 3), made(1, 0, 2, 2, 3), made(1, 7, 2, 2, 3), made(1, 1, 0, 2, 3), made(1, 1, 7, 2, 3),
		made(1, 2, 2, 2, 3), made(1, 1, 2, 0, 3), made(1, 1, 2, 5, 3), made(1, 1, 2, 2, 0), made(1, 1, 2, 2, 17)}
	for _, x := range greatest() {
		for field := range 5 {
			wrong = append(wrong, with(example(), field, x))
		}
	}
	for _, c := range wrong {
		for _, l := range [][]string{nil, {""}, {"a"}, {"a", "b"}, {"", "", "", "", ""}, {letters(17)}} {
			mayQueue(t, queue(c, l...), false)
		}
	}
}

// P10.1 (MayQueue), P10.2 (New): what New returns is a valid queue, of every valid channel.
func TestNewIsValid(t *testing.T) {
	for id := 1; id <= 8; id++ {
		for from := 1; from <= 6; from++ {
			for capacity := 1; capacity <= 4; capacity++ {
				for size := 1; size <= 16; size++ {
					c := made(id, from, 1+from%6, capacity, size)
					q, e := channel.New(c)
					if e != api.OK || q.Channel != c || len(q.Msgs) != 0 || !channel.MayQueue(q) {
						t.Errorf("New(%v) = %s, %d", c, told(q), e)
					}
				}
			}
		}
	}
}
