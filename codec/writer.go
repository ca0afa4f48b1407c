// Package codec: writing and reading encodings from left to right, with their hashes.
package codec

import (
	"throng/fnv"
	"throng/wire"
)

// word is the number of bytes of a hash.
const word = 8

// Writer collects an encoding. Its zero value is empty.
type Writer struct {
	b []byte
	s summed
}

// summed is the hash of the first bytes of an encoding; it grows with the encoding, so that nothing is hashed twice.
type summed struct {
	hash  uint64
	upTo  int
	begun bool
}

// sum returns the hash of all of b, whose beginning it was given before.
func (s *summed) sum(b []byte) uint64 {
	if !s.begun {
		s.begun, s.hash = true, fnv.Start()
	}
	s.hash = fnv.Sum(s.hash, b[s.upTo:])
	s.upTo = len(b)
	return s.hash
}

// Add adds bytes as they are.
func (w *Writer) Add(b ...byte) { w.b = append(w.b, b...) }

// Num adds a number that is not negative.
func (w *Writer) Num(n int) {
	x, _ := wire.Num(n)
	w.Add(x...)
}

// Int adds a number from -2^62 to 2^62 - 1.
func (w *Writer) Int(n int) {
	x, _ := wire.Int(n)
	w.Add(x...)
}

// Raw adds at most MaxBytes bytes with their number.
func (w *Writer) Raw(b []byte) {
	x, _ := wire.Raw(b)
	w.Add(x...)
}

// Word adds the eight bytes of n, the least significant one first.
func (w *Writer) Word(n uint64) {
	for range word {
		w.Add(byte(n))
		n >>= 8
	}
}

// Hash adds the hash of everything before, and returns it.
func (w *Writer) Hash() uint64 {
	n := w.s.sum(w.b)
	w.Word(n)
	return n
}

// Size returns how many bytes were written.
func (w *Writer) Size() int { return len(w.b) }

// Bytes returns what was written. The writer is not used any more then.
func (w *Writer) Bytes() []byte { return w.b }
