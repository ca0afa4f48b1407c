package fixed_test

import (
	"math"
	"math/big"
	"testing"

	"throng/api"
	"throng/fixed"
)

// some returns numbers at the edges and a few hundred without a pattern.
func some() []int64 {
	l := []int64{0, 1, 2, 3, 5, api.One - 1, api.One, api.One + 1, 3 * api.One / 2, 1 << 31, 1<<39 + 9, 1 << 47, 1<<47 - 1, 1 << 62, api.Most - 1, api.Most}
	for _, a := range l {
		l = append(l, -a)
	}
	l = append(l, math.MinInt64)
	seed := uint64(5)
	for range 150 {
		seed = seed*6364136223846793005 + 1442695040888963407
		l = append(l, int64(seed)>>(seed>>58))
	}
	return l
}

func large(a int64) *big.Int { return big.NewInt(max(a, -api.Most)) }

// cut cuts a number off at Most.
func cut(n *big.Int) int64 {
	most := big.NewInt(api.Most)
	switch {
	case n.Cmp(most) > 0:
		return api.Most
	case n.Cmp(new(big.Int).Neg(most)) < 0:
		return -api.Most
	}
	return n.Int64()
}

// down returns a / b, rounded down. (Div of package big rounds so for b above 0.)
func down(a, b *big.Int) *big.Int {
	if b.Sign() < 0 {
		a, b = new(big.Int).Neg(a), new(big.Int).Neg(b)
	}
	return new(big.Int).Div(a, b)
}

func same(t *testing.T, what string, a, b, got, want int64) {
	t.Helper()
	if got != want {
		t.Errorf("%s(%d, %d) %d, want %d", what, a, b, got, want)
	}
}

// P1.1
func TestArithmetic(t *testing.T) {
	one := big.NewInt(api.One)
	for _, a := range some() {
		same(t, "Neg", a, 0, fixed.Neg(a), cut(new(big.Int).Neg(large(a))))
		for _, b := range some() {
			x, y := large(a), large(b)
			same(t, "Add", a, b, fixed.Add(a, b), cut(new(big.Int).Add(x, y)))
			same(t, "Sub", a, b, fixed.Sub(a, b), cut(new(big.Int).Sub(x, y)))
			same(t, "Mul", a, b, fixed.Mul(a, b), cut(down(new(big.Int).Mul(x, y), one)))
			if b != 0 {
				same(t, "Div", a, b, fixed.Div(a, b), cut(down(new(big.Int).Mul(x, one), y)))
			}
		}
	}
}

// P1.1
func TestDivByZero(t *testing.T) {
	for _, c := range [][2]int64{{1, api.Most}, {api.Most, api.Most}, {-1, -api.Most}, {math.MinInt64, -api.Most}, {0, 0}} {
		same(t, "Div", c[0], 0, fixed.Div(c[0], 0), c[1])
	}
}

// P1.1
func TestRounding(t *testing.T) {
	same(t, "Mul", 3*api.One/2, 3*api.One/2, fixed.Mul(3*api.One/2, 3*api.One/2), 9*api.One/4)
	same(t, "Mul", -1, 1, fixed.Mul(-1, 1), -1)
	same(t, "Mul", 1, 1, fixed.Mul(1, 1), 0)
	same(t, "Mul", -1, api.One, fixed.Mul(-1, api.One), -1)
	same(t, "Div", -1, 3*api.One, fixed.Div(-1, 3*api.One), -1)
	same(t, "Div", 1, 3*api.One, fixed.Div(1, 3*api.One), 0)
	same(t, "Div", api.One, -2*api.One, fixed.Div(api.One, -2*api.One), -api.One/2)
}

// P1.1
func TestCutOff(t *testing.T) {
	same(t, "Add", api.Most, 1, fixed.Add(api.Most, 1), api.Most)
	same(t, "Add", math.MinInt64, -1, fixed.Add(math.MinInt64, -1), -api.Most)
	same(t, "Add", math.MinInt64, 0, fixed.Add(math.MinInt64, 0), -api.Most)
	same(t, "Sub", 0, math.MinInt64, fixed.Sub(0, math.MinInt64), api.Most)
	same(t, "Neg", math.MinInt64, 0, fixed.Neg(math.MinInt64), api.Most)
	same(t, "Mul", api.Most, -api.Most, fixed.Mul(api.Most, -api.Most), -api.Most)
	same(t, "Div", math.MinInt64, 1, fixed.Div(math.MinInt64, 1), -api.Most)
}

// P1.2
func TestSqrt(t *testing.T) {
	for _, a := range some() {
		want := new(big.Int)
		if a > 0 {
			want.Sqrt(want.Mul(large(a), big.NewInt(api.One)))
		}
		same(t, "Sqrt", a, 0, fixed.Sqrt(a), want.Int64())
	}
	same(t, "Sqrt", 4*api.One, 0, fixed.Sqrt(4*api.One), 2*api.One)
}

// P1.2
func TestCmp(t *testing.T) {
	for _, a := range some() {
		for _, b := range some() {
			same(t, "Cmp", a, b, int64(fixed.Cmp(a, b)), int64(large(a).Cmp(large(b))))
		}
	}
	same(t, "Cmp", math.MinInt64, -api.Most, int64(fixed.Cmp(math.MinInt64, -api.Most)), 0)
}

// P1.3
func TestOrder(t *testing.T) {
	for _, a := range some() {
		for _, b := range some() {
			for _, c := range []int64{math.MinInt64, -api.Most, -1, 0, 1, 1 << 62, api.Most} {
				if a <= b && fixed.Add(a, c) > fixed.Add(b, c) {
					t.Errorf("Add(%d, %d) is above Add(%d, %d)", a, c, b, c)
				}
			}
		}
	}
}
