package wire

import (
	"citadel/api"
	"citadel/words"
)

// Reader holds bytes, and removes fields from their front.
type Reader struct {
	made bool // by NewReader
	rest []byte
	err  api.Errno
}

// NewReader returns a reader of b; it has failed with ErrLong if b is longer than an encoding may be (P5.2).
func NewReader(b []byte) *Reader {
	if len(b) > api.MaxBytes {
		return &Reader{made: true, err: api.ErrLong}
	}
	return &Reader{made: true, rest: words.Cat(b)}
}

// Byte removes a byte (P5.2).
func (r *Reader) Byte() byte {
	return take(r, always(1), func(field []byte) byte { return field[0] })
}

// Int removes a number (P5.2).
func (r *Reader) Int() int { return take(r, always(numberSize), number) }

// Flag removes a flag; its byte is 0 or 1 (P5.2).
func (r *Reader) Flag() bool {
	size := func(rest []byte) (int, bool) {
		return 1, len(rest) > 0 && rest[0] <= 1
	}
	return take(r, size, func(field []byte) bool { return field[0] == 1 })
}

// Bytes removes a length and as many bytes, and returns those (P5.2).
func (r *Reader) Bytes() []byte {
	return take(r, counted, func(field []byte) []byte { return words.Cat(field[lengthSize:]) })
}

// Text removes a length and as many bytes, and returns those as text (P5.2).
func (r *Reader) Text() string {
	return take(r, counted, func(field []byte) string { return string(field[lengthSize:]) })
}

// Tag removes a tag (P5.2).
func (r *Reader) Tag() api.Tag {
	return take(r, always(len(api.Tag{})), func(field []byte) api.Tag { return api.Tag(field) })
}

// Count removes a number, which is from 0 to most and no greater than the number of bytes behind it (P5.3).
func (r *Reader) Count(most int) int {
	size := func(rest []byte) (int, bool) {
		if len(rest) < numberSize {
			return 0, false
		}
		n := number(rest)
		return numberSize, n >= 0 && n <= most && n <= len(rest)-numberSize
	}
	return take(r, size, number)
}

// Left returns how many bytes remain; none of a reader that has failed (P5.3).
func (r *Reader) Left() int {
	if r.Err() != api.OK {
		return 0
	}
	return len(r.rest)
}

// Err returns the error of a reader that has failed (P5.4).
func (r *Reader) Err() api.Errno {
	if r == nil || !r.made {
		return api.ErrNil
	}
	return r.err
}

// End returns the error of a reader that has failed; ErrWire if bytes remain (P5.4).
func (r *Reader) End() api.Errno {
	if r.Left() > 0 {
		return api.ErrWire
	}
	return r.Err()
}

// take removes a field from the front of r, and returns its value. size tells, from all bytes that remain, how many the field occupies (they may be more than remain); false if no such field is at the front.
func take[T any](r *Reader, size func(rest []byte) (int, bool), value func(field []byte) T) T {
	var none T
	if r.Err() != api.OK {
		return none
	}
	n, ok := size(r.rest)
	if !ok || n > len(r.rest) {
		r.rest, r.err = nil, api.ErrWire
		return none
	}
	field := r.rest[:n:n]
	r.rest = r.rest[n:]
	return value(field)
}

// always returns the size of a field that occupies n bytes whatever they are.
func always(n int) func(rest []byte) (int, bool) {
	return func([]byte) (int, bool) { return n, true }
}

// counted is the size of a field of bytes or text.
func counted(rest []byte) (int, bool) {
	n, ok := words.Load32(rest, 0)
	if !ok || n > api.MaxBytes {
		return 0, false
	}
	return lengthSize + int(n), true
}

// number returns the number whose encoding b begins with.
func number(b []byte) int {
	x, _ := words.Load64(b, 0)
	return int(x)
}
