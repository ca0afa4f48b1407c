package fnv

import (
	"hash/fnv"
	"testing"
)

// some returns n bytes without a pattern.
func some(n int) []byte {
	b := make([]byte, n)
	seed := uint64(n)
	for i := range b {
		seed = seed*6364136223846793005 + 1442695040888963407
		b[i] = byte(seed >> 56)
	}
	return b
}

// P3.1
func TestSum(t *testing.T) {
	if Start() != 14695981039346656037 {
		t.Errorf("Start %d", Start())
	}
	for n := range 300 {
		b := some(n)
		h := fnv.New64a()
		h.Write(b)
		if got := Sum(Start(), b); got != h.Sum64() {
			t.Fatalf("Sum of %d bytes is %x, want %x", n, got, h.Sum64())
		}
	}
	if got := Sum(Start(), []byte("a")); got != 0xaf63dc4c8601ec8c {
		t.Errorf("Sum of \"a\" is %x", got)
	}
	if Sum(7, nil) != 7 || Sum(0, []byte{1}) != 1099511628211 {
		t.Error("Sum does not continue s")
	}
}

// P3.2
func TestParts(t *testing.T) {
	b := some(100)
	for i := range len(b) + 1 {
		if Sum(Sum(Start(), b[:i]), b[i:]) != Sum(Start(), b) {
			t.Fatalf("cut at %d", i)
		}
	}
}
