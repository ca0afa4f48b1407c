package fnv_test

import (
	standard "hash/fnv"
	"testing"

	"throng/fnv"
)

// some returns n bytes without a pattern.
func some(n int) []byte {
	b := make([]byte, n)
	seed := uint64(n)
	for i := range b {
		seed = seed*6364136223846793005 + 1442695040888963407
		b[i] = byte(seed >> 56)
	}
	return b
}

// P3.1
func TestSum(t *testing.T) {
	if fnv.Start() != 14695981039346656037 {
		t.Errorf("Start %d", fnv.Start())
	}
	for n := range 300 {
		b := some(n)
		h := standard.New64a()
		h.Write(b)
		if got := fnv.Sum(fnv.Start(), b); got != h.Sum64() {
			t.Fatalf("Sum of %d bytes is %x, want %x", n, got, h.Sum64())
		}
	}
	if got := fnv.Sum(fnv.Start(), []byte("a")); got != 0xaf63dc4c8601ec8c {
		t.Errorf("Sum of \"a\" is %x", got)
	}
	if fnv.Sum(7, nil) != 7 || fnv.Sum(0, []byte{1}) != 1099511628211 {
		t.Error("Sum does not continue s")
	}
}

// P3.2
func TestParts(t *testing.T) {
	b := some(100)
	for i := range len(b) + 1 {
		if fnv.Sum(fnv.Sum(fnv.Start(), b[:i]), b[i:]) != fnv.Sum(fnv.Start(), b) {
			t.Fatalf("cut at %d", i)
		}
	}
}
