package wide_test

import (
	"math/big"
	"testing"

	"throng/wide"
)

// some returns numbers at the edges and a few hundred without a pattern.
func some() []uint64 {
	l := []uint64{0, 1, 2, 3, 5, 1<<16 - 1, 1 << 16, 1<<32 - 1, 1 << 32, 1<<32 + 1, 1<<62 - 1, 1 << 62, 1<<63 - 1, 1 << 63, 1<<64 - 2, 1<<64 - 1}
	seed := uint64(11)
	for range 200 {
		seed = seed*6364136223846793005 + 1442695040888963407
		l = append(l, seed>>(seed>>58))
	}
	return l
}

func large(a wide.Num) *big.Int {
	n := new(big.Int).SetUint64(a.Hi)
	return n.Lsh(n, 64).Add(n, new(big.Int).SetUint64(a.Lo))
}

func of(a uint64) *big.Int { return new(big.Int).SetUint64(a) }

func TestMulAddLess(t *testing.T) {
	for _, a := range some() {
		for _, b := range some() {
			p := wide.Mul(a, b)
			if want := new(big.Int).Mul(of(a), of(b)); large(p).Cmp(want) != 0 {
				t.Fatalf("Mul(%d, %d) %v, want %v", a, b, p, want)
			}
			x, y := wide.Num{a >> 1, b}, wide.Num{b >> 1, a}
			if want := new(big.Int).Add(large(x), large(y)); large(wide.Add(x, y)).Cmp(want) != 0 {
				t.Fatalf("Add(%v, %v) %v, want %v", x, y, wide.Add(x, y), want)
			}
			if wide.Less(x, y) != (large(x).Cmp(large(y)) < 0) {
				t.Fatalf("Less(%v, %v) %v", x, y, wide.Less(x, y))
			}
		}
	}
}

func TestDiv(t *testing.T) {
	for _, hi := range some() {
		for _, b := range some() {
			if b == 0 || b > 1<<63 {
				continue
			}
			a := wide.Num{hi, hi ^ b<<7}
			q, rest := wide.Div(a, b)
			wantQ, wantRest := new(big.Int).QuoRem(large(a), of(b), new(big.Int))
			if large(q).Cmp(wantQ) != 0 || of(rest).Cmp(wantRest) != 0 {
				t.Fatalf("Div(%v, %d) %v, %d, want %v, %v", a, b, q, rest, wantQ, wantRest)
			}
		}
	}
}

func TestRoot(t *testing.T) {
	for _, hi := range some() {
		for _, a := range []wide.Num{{hi, 0}, {0, hi}, {hi, 1<<64 - 1}, wide.Mul(hi, hi)} {
			if want := new(big.Int).Sqrt(large(a)); of(wide.Root(a)).Cmp(want) != 0 {
				t.Fatalf("Root(%v) %d, want %v", a, wide.Root(a), want)
			}
		}
	}
}
