// Package wire is layer 1: canonical binary encoding of integers, strings and booleans. It is specified in shared/doc/01-wire.md.
package wire

import "workflow/api"

// mostGroups is the number of groups of seven bits that 64 bits take.
const mostGroups = 10

// Reader reads encoded values from bytes and keeps its first error.
type Reader struct {
	left   []byte
	err    api.Errno
	opened bool // tells a reader of Open from a Reader made by hand
}

// PutInt appends the encoding of an integer.
func PutInt(b []byte, n int) []byte {
	return appendInt(copyOf(b, mostGroups), n)
}

// PutText appends the encoding of a string.
func PutText(b []byte, s string) []byte {
	return append(appendInt(copyOf(b, mostGroups+len(s)), len(s)), s...)
}

// PutBool appends the encoding of a boolean.
func PutBool(b []byte, yes bool) []byte {
	if yes {
		return append(copyOf(b, 1), 1)
	}
	return append(copyOf(b, 1), 0)
}

// copyOf copies b, so that the bytes appended to the copy never land in the capacity of b; room is how many will follow.
func copyOf(b []byte, room int) []byte {
	return append(make([]byte, 0, len(b)+room), b...)
}

// appendInt appends the encoding of an integer to a slice that the caller owns.
func appendInt(b []byte, n int) []byte {
	u := fold(n)
	for u >= 128 {
		b = append(b, byte(u%128)+128)
		u /= 128
	}
	return append(b, byte(u))
}

// fold numbers the integers 0, -1, 1, -2, 2, .. from 0, so that those near zero take few bytes.
func fold(n int) uint64 {
	u := uint64(n) << 1
	if n < 0 {
		return ^u
	}
	return u
}

// unfold is the inverse of fold.
func unfold(u uint64) int {
	if u%2 == 1 {
		return int(^(u >> 1))
	}
	return int(u >> 1)
}

// Open returns a reader at the start of b.
func Open(b []byte) *Reader {
	return &Reader{left: copyOf(b, 0), opened: true}
}

// Int reads an integer from low to high.
func (r *Reader) Int(low, high int) int {
	if r.Err() != api.OK {
		return 0
	}
	size, e := intSize(r.left)
	if e != api.OK {
		r.Fail(e)
		return 0
	}
	n := unfold(joinGroups(r.left[:size]))
	if n < low || n > high {
		r.Fail(api.ErrRange)
		return 0
	}
	r.left = r.left[size:]
	return n
}

// intSize returns the length of the integer at the start of b.
func intSize(b []byte) (int, api.Errno) {
	for i, c := range b[:min(len(b), mostGroups)] {
		if c >= 128 {
			continue
		}
		// A last group of 0 could be left out, and the tenth group has room for only one of the 64 bits.
		if i > 0 && c == 0 || i == mostGroups-1 && c > 1 {
			return 0, api.ErrForm
		}
		return i + 1, api.OK
	}
	if len(b) >= mostGroups {
		return 0, api.ErrForm
	}
	return 0, api.ErrShort
}

// joinGroups returns the number whose groups of seven bits are in b, the lowest group first.
func joinGroups(b []byte) uint64 {
	u := uint64(0)
	for i, c := range b {
		u |= uint64(c%128) << (7 * i)
	}
	return u
}

// Text reads a string of at most most bytes.
func (r *Reader) Text(most int) string {
	size := r.Int(0, most)
	if size > r.Left() {
		r.Fail(api.ErrShort)
	}
	if r.Err() != api.OK {
		return ""
	}
	s := string(r.left[:size])
	r.left = r.left[size:]
	return s
}

// Bool reads a boolean.
func (r *Reader) Bool() bool {
	if r.Err() != api.OK {
		return false
	}
	if len(r.left) == 0 {
		r.Fail(api.ErrShort)
		return false
	}
	c := r.left[0]
	if c > 1 {
		r.Fail(api.ErrForm)
		return false
	}
	r.left = r.left[1:]
	return c == 1
}

// Fail sets the error if there is none yet.
func (r *Reader) Fail(e api.Errno) {
	if r.Err() == api.OK {
		r.err = e
	}
}

// Err returns the first error.
func (r *Reader) Err() api.Errno {
	if r == nil || !r.opened {
		return api.ErrNil
	}
	return r.err
}

// End returns the first error, or ErrForm if bytes remain.
func (r *Reader) End() api.Errno {
	if r.Left() > 0 {
		return api.ErrForm
	}
	return r.Err()
}

// Left returns the number of bytes that remain, or 0 after an error.
func (r *Reader) Left() int {
	if r.Err() != api.OK {
		return 0
	}
	return len(r.left)
}
