package channel_test

import (
	"fmt"
	"math/rand"
	"slices"
	"testing"

	"citadel/api"
	"citadel/channel"
)

func drawnChannel(from *rand.Rand) api.Channel {
	first := 1 + from.Intn(6)
	return made(1+from.Intn(8), first, 1+(first+from.Intn(5))%6, 1+from.Intn(4), 1+from.Intn(16))
}

func drawnMessage(from *rand.Rand, most int) string {
	m := make([]byte, from.Intn(most+1))
	from.Read(m)
	return string(m)
}

// script sends through a new queue of c what from draws, and holds it at each step to a list of texts.
func script(t *testing.T, c api.Channel, steps int, from *rand.Rand) (taken, discarded int) {
	t.Helper()
	q, e := channel.New(c)
	if e != api.OK {
		t.Fatalf("New(%v): %d", c, e)
	}
	var model []string
	for range steps {
		switch from.Intn(5) {
		case 0, 1, 2:
			m := drawnMessage(from, c.Size+2)
			after, e := channel.Put(q, []byte(m))
			if len(m) > c.Size {
				putRefused(t, q, m, api.ErrLong)
				continue
			}
			model = append(model, m)
			if len(model) > c.Cap {
				model, discarded = model[1:], discarded+1
			}
			if e != api.OK {
				t.Fatalf("Put(%s, %q): %d", told(q), m, e)
			}
			q = after
		case 3:
			if len(model) == 0 {
				takeRefused(t, q, api.ErrChannel)
				continue
			}
			take(t, q, model[0], model[1:]...)
			_, q, _ = channel.Take(q)
			model, taken = model[1:], taken+1
		case 4:
			same(t, q, queue(c, model...), true)
			mayQueue(t, q, true)
		}
		if told(q) != told(queue(c, model...)) {
			t.Fatalf("the queue is %s, want %q", told(q), model)
		}
	}
	return taken, discarded
}

// P10.1 to P10.4, P10.6 (first in, first out): drawn scripts on drawn channels, held to a list of texts.
func TestScripts(t *testing.T) {
	from := rand.New(rand.NewSource(101))
	taken, discarded := 0, 0
	for range 300 {
		a, b := script(t, drawnChannel(from), 60, from)
		taken, discarded = taken+a, discarded+b
	}
	if taken < 500 || discarded < 500 {
		t.Errorf("%d messages were taken, %d discarded", taken, discarded)
	}
}

// drain takes from q till there is nothing.
func drain(t *testing.T, q api.Queue) []string {
	t.Helper()
	var l []string
	for {
		m, rest, e := channel.Take(q)
		if e == api.ErrChannel {
			return l
		}
		if e != api.OK || len(l) > 100 {
			t.Fatalf("Take(%s): %d, behind %d messages", told(q), e, len(l))
		}
		l, q = append(l, string(m)), rest
	}
}

// P10.6 (first in, first out): of so many messages the last Cap of them are taken, in their order, each once.
func TestFirstInFirstOut(t *testing.T) {
	for capacity := 1; capacity <= 4; capacity++ {
		for count := range 20 {
			q, _ := channel.New(made(5, 2, 6, capacity, 8))
			var sent []string
			for i := range count {
				m := fmt.Sprint("no. ", i)
				sent = append(sent, m)
				after, e := channel.Put(q, []byte(m))
				if e != api.OK {
					t.Errorf("Put %d of %d: %d", i, count, e)
				}
				q = after
			}
			if got := drain(t, q); !slices.Equal(got, sent[max(0, count-capacity):]) {
				t.Errorf("Cap %d: of %q there are %q", capacity, sent, got)
			}
		}
	}
}

// P10.6 (first in, first out): while there is room, what is put and taken in turn loses nothing.
func TestNothingLostWithRoom(t *testing.T) {
	for capacity := 1; capacity <= 4; capacity++ {
		q, _ := channel.New(made(1, 1, 2, capacity, 8))
		var sent, got []string
		for i := range 60 {
			if len(sent)-len(got) < capacity && i%7 != 0 {
				m := fmt.Sprint(i)
				q, _ = channel.Put(q, []byte(m))
				sent = append(sent, m)
			}
			if i%3 == 0 && len(sent) > len(got) {
				m, rest, e := channel.Take(q)
				if e != api.OK {
					t.Errorf("Take(%s): %d", told(q), e)
				}
				q, got = rest, append(got, string(m))
			}
		}
		if got = append(got, drain(t, q)...); !slices.Equal(got, sent) {
			t.Errorf("Cap %d: %q came out as %q", capacity, sent, got)
		}
	}
}

// P10.7 (sending never fails): what Put answers for a message depends on its length alone, not on what the queue holds.
func TestSendingNeverFails(t *testing.T) {
	from := rand.New(rand.NewSource(107))
	for range 2000 {
		c := drawnChannel(from)
		var held []string
		for range from.Intn(c.Cap + 1) {
			held = append(held, drawnMessage(from, c.Size))
		}
		m := drawnMessage(from, c.Size+3)
		want := api.OK
		if len(m) > c.Size {
			want = api.ErrLong
		}
		_, a := channel.Put(queue(c, held...), []byte(m))
		_, b := channel.Put(queue(c), []byte(m))
		if a != want || b != want {
			t.Errorf("Put of %q with Size %d: %d into %q, %d into an empty queue", m, c.Size, a, held, b)
		}
	}
}

// P10.7 (sending never fails): a queue stays valid, however often something is put into it.
func TestAlwaysRoom(t *testing.T) {
	for capacity := 1; capacity <= 4; capacity++ {
		q, _ := channel.New(made(1, 1, 2, capacity, 16))
		for i := range 1000 {
			after, e := channel.Put(q, []byte(letters(i%17)))
			if e != api.OK || !channel.MayQueue(after) || len(after.Msgs) != min(i+1, capacity) {
				t.Fatalf("Put %d with Cap %d: %s, %d", i, capacity, told(after), e)
			}
			q = after
		}
	}
}

// P10.1 (MayQueue, Same): drawn queues, valid and not, held to what is written out.
func TestDrawnQueues(t *testing.T) {
	from := rand.New(rand.NewSource(100))
	got := map[bool]int{}
	for range 3000 {
		q := queue(drawnChannel(from))
		for range from.Intn(q.Channel.Cap + 2) {
			q.Msgs = append(q.Msgs, []byte(drawnMessage(from, q.Channel.Size+from.Intn(2))))
		}
		if from.Intn(10) == 0 {
			q.Channel = with(q.Channel, from.Intn(5), from.Intn(20)-1)
		}
		mayQueue(t, q, isValidQueue(q))
		got[isValidQueue(q)]++
		other := queue(q.Channel)
		for _, m := range q.Msgs {
			other.Msgs = append(other.Msgs, slices.Clone(m))
		}
		same(t, q, other, true)
		from.Shuffle(len(other.Msgs), func(i, j int) { other.Msgs[i], other.Msgs[j] = other.Msgs[j], other.Msgs[i] })
		same(t, q, other, told(q) == told(other))
	}
	if got[true] < 500 || got[false] < 500 {
		t.Errorf("valid and not: %v", got)
	}
}
