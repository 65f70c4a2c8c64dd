package wire

import (
	"math"

	"tidemark/api"
)

// Reader reads bytes from their beginning on, till something can't be read.
type Reader struct {
	b    []byte
	at   int
	err  api.Errno
	made bool // tells one of Read from a plain Reader{}
}

// Read is one over a copy of bytes.
func Read(b []byte) *Reader { return &Reader{b: own(b, 0), made: true} }

// ready tells whether anything may be read yet.
func (r *Reader) ready() bool { return r.Err() == api.OK }

// peek is the next number, without going on: what is asked for may yet be refused.
func (r *Reader) peek() (int, int, api.Errno) { return number(r.b[r.at:]) }

// Number is the next number; 0 behind an error.
func (r *Reader) Number() int { return r.Within(0, math.MaxInt) }

// Within is the next number, from lo to hi.
func (r *Reader) Within(lo, hi int) int {
	if !r.ready() {
		return 0
	}
	n, size, e := r.peek()
	if e == api.OK && (n < lo || n > hi) {
		e = api.ErrRange
	}
	if e != api.OK {
		r.err = e
		return 0
	}
	r.at += size
	return n
}

// Signed is the next number with a sign.
func (r *Reader) Signed() int64 {
	if !r.ready() {
		return 0
	}
	if r.Left() < 8 {
		r.err = api.ErrShort
		return 0
	}
	var u uint64
	for _, c := range r.b[r.at : r.at+8] {
		u = u<<8 | uint64(c)
	}
	r.at += 8
	return int64(u)
}

// Text is the next text, of at most so many bytes.
func (r *Reader) Text(most int) string {
	if !r.ready() {
		return ""
	}
	n, size, e := r.peek()
	switch {
	case e != api.OK:
		r.err = e
		return ""
	case n > max(most, 0):
		r.err = api.ErrLong
		return ""
	case n > r.Left()-size:
		r.err = api.ErrShort
		return ""
	}
	from := r.at + size
	r.at = from + n
	return string(r.b[from:r.at])
}

// Flag is the next yes or no.
func (r *Reader) Flag() bool {
	if !r.ready() {
		return false
	}
	n, size, e := r.peek()
	if e == api.OK && n > 1 {
		e = api.ErrForm
	}
	if e != api.OK {
		r.err = e
		return false
	}
	r.at += size
	return n == 1
}

// Left is how many bytes were not read.
func (r *Reader) Left() int {
	if r == nil {
		return 0
	}
	return len(r.b) - r.at
}

// Err is the first error.
func (r *Reader) Err() api.Errno {
	if r == nil || !r.made {
		return api.ErrNil
	}
	return r.err
}

// End is the first error, or whether bytes are left.
func (r *Reader) End() api.Errno {
	if !r.ready() {
		return r.Err()
	}
	if r.Left() > 0 {
		return api.ErrMore
	}
	return api.OK
}
