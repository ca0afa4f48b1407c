package codec

import (
	"throng/api"
	"throng/wire"
)

// Reader reads an encoding. Of several errors it keeps the first; behind it, all that it reads is 0 or empty.
type Reader struct {
	b  []byte
	at int
	e  api.Errno
	s  summed
}

// Open returns a reader of b, which must not change meanwhile.
func Open(b []byte) *Reader { return &Reader{b: b} }

// Error returns the first error.
func (r *Reader) Error() api.Errno { return r.e }

// Size returns how many bytes were read.
func (r *Reader) Size() int { return r.at }

// More reports whether bytes are left, and no error occurred.
func (r *Reader) More() bool { return r.e == api.OK && r.at < len(r.b) }

// Rest returns what was not read yet.
func (r *Reader) Rest() []byte { return r.b[r.at:] }

// Take counts the next size bytes as read, or keeps the error e.
func (r *Reader) Take(size int, e api.Errno) {
	if r.e != api.OK {
		return
	}
	r.e = e
	if e == api.OK {
		r.at += size
	}
}

// Fail keeps ErrForm, if there was no error before.
func (r *Reader) Fail() { r.Take(0, api.ErrForm) }

// Byte reads a byte from least to most.
func (r *Reader) Byte(least, most byte) byte {
	switch {
	case r.e != api.OK:
	case r.at == len(r.b):
		r.e = api.ErrCut
	case r.b[r.at] < least || r.b[r.at] > most:
		r.e = api.ErrForm
	default:
		r.at++
		return r.b[r.at-1]
	}
	return 0
}

// Sign reads bytes that must be these.
func (r *Reader) Sign(l ...byte) {
	for _, x := range l {
		r.Byte(x, x)
	}
}

// Num reads a number from least to most.
func (r *Reader) Num(least, most int) int {
	n, size, e := wire.GetNum(r.Rest())
	return r.number(n, size, e, least, most)
}

// Int reads a number from least to most, which may be negative.
func (r *Reader) Int(least, most int) int {
	n, size, e := wire.GetInt(r.Rest())
	return r.number(n, size, e, least, most)
}

func (r *Reader) number(n, size int, e api.Errno, least, most int) int {
	if e == api.OK && (n < least || n > most) {
		e = api.ErrForm
	}
	r.Take(size, e)
	if r.e != api.OK {
		return 0
	}
	return n
}

// Raw reads bytes with their number.
func (r *Reader) Raw() []byte {
	x, size, e := wire.GetRaw(r.Rest())
	r.Take(size, e)
	if r.e != api.OK {
		return nil
	}
	return x
}

// Word reads eight bytes, the least significant one first.
func (r *Reader) Word() uint64 {
	n := uint64(0)
	for i := range word {
		n |= uint64(r.Byte(0, 255)) << (8 * i)
	}
	if r.e != api.OK {
		return 0
	}
	return n
}

// Hash reads the hash of everything before.
func (r *Reader) Hash() {
	if r.e != api.OK {
		return
	}
	n := r.s.sum(r.b[:r.at])
	for range word {
		r.Sign(byte(n))
		n >>= 8
	}
}

// End keeps ErrForm if bytes are left.
func (r *Reader) End() {
	if r.More() {
		r.Fail()
	}
}
