package vec_test

import (
	"math"
	"math/big"
	"testing"

	"throng/api"
	"throng/fixed"
	"throng/vec"
)

// numbers returns numbers at the edges and some without a pattern.
func numbers() []int64 {
	l := []int64{0, 1, 3, api.One, 3 * api.One, 1<<40 + 1, 1 << 61, 1 << 62, api.Most - 1, api.Most}
	for _, a := range l {
		l = append(l, -a)
	}
	l = append(l, math.MinInt64)
	seed := uint64(3)
	for range 12 {
		seed = seed*6364136223846793005 + 1442695040888963407
		l = append(l, int64(seed)>>(seed>>58))
	}
	return l
}

// vectors returns all vectors of these numbers.
func vectors() []api.Vec {
	var l []api.Vec
	for _, x := range numbers() {
		for _, y := range numbers() {
			l = append(l, api.Vec{X: x, Y: y})
		}
	}
	return l
}

func large(a int64) *big.Int { return big.NewInt(max(a, -api.Most)) }

func power(a int64) *big.Int { return new(big.Int).Mul(large(a), large(a)) }

// squares returns X * X + Y * Y.
func squares(v api.Vec) *big.Int { return new(big.Int).Add(power(v.X), power(v.Y)) }

// P2.1
func TestByComponents(t *testing.T) {
	l := vectors()
	for i, a := range l {
		b := l[(i*31+7)%len(l)]
		if got, want := vec.Add(a, b), (api.Vec{X: fixed.Add(a.X, b.X), Y: fixed.Add(a.Y, b.Y)}); got != want {
			t.Errorf("Add(%v, %v) %v, want %v", a, b, got, want)
		}
		if got, want := vec.Sub(a, b), (api.Vec{X: fixed.Sub(a.X, b.X), Y: fixed.Sub(a.Y, b.Y)}); got != want {
			t.Errorf("Sub(%v, %v) %v, want %v", a, b, got, want)
		}
		if got, want := vec.Neg(a), (api.Vec{X: fixed.Neg(a.X), Y: fixed.Neg(a.Y)}); got != want {
			t.Errorf("Neg(%v) %v, want %v", a, got, want)
		}
		if got, want := vec.Scale(a, b.X), (api.Vec{X: fixed.Mul(a.X, b.X), Y: fixed.Mul(a.Y, b.X)}); got != want {
			t.Errorf("Scale(%v, %d) %v, want %v", a, b.X, got, want)
		}
		if got, want := vec.Dot(a, b), fixed.Add(fixed.Mul(a.X, b.X), fixed.Mul(a.Y, b.Y)); got != want {
			t.Errorf("Dot(%v, %v) %d, want %d", a, b, got, want)
		}
	}
	if got := vec.Sub(api.Vec{X: 5, Y: 1}, api.Vec{X: 2, Y: 4}); got != (api.Vec{X: 3, Y: -3}) {
		t.Errorf("Sub %v", got)
	}
}

// P2.2
func TestLen(t *testing.T) {
	for _, v := range vectors() {
		want := new(big.Int).Sqrt(squares(v))
		if want.Cmp(big.NewInt(api.Most)) > 0 {
			want.SetInt64(api.Most)
		}
		if got := vec.Len(v); got != want.Int64() {
			t.Errorf("Len(%v) %d, want %v", v, got, want)
		}
	}
	if got := vec.Len(api.Vec{X: 3 * api.One, Y: 4 * api.One}); got != 5*api.One {
		t.Errorf("Len of the example is %d", got)
	}
}

// P2.2
func TestWithin(t *testing.T) {
	l := vectors()
	for i, a := range l {
		b := l[(i*17+5)%len(l)]
		of := squares(vec.Sub(a, b))
		for _, r := range append(numbers(), vec.Len(vec.Sub(a, b)), min(vec.Len(vec.Sub(a, b)), api.Most-1)+1) {
			want := r >= 0 && of.Cmp(power(r)) < 0
			if got := vec.Within(a, b, r); got != want {
				t.Errorf("Within(%v, %v, %d) %v", a, b, r, got)
			}
		}
	}
	a, b := api.Vec{X: 3}, api.Vec{Y: 4}
	if vec.Within(a, b, 5) || !vec.Within(a, b, 6) || vec.Within(a, a, 0) || !vec.Within(a, a, 1) || vec.Within(a, a, -1) || vec.Within(a, a, math.MinInt64) {
		t.Error("Within at the border")
	}
}

// clamped returns c * most / length, rounded towards 0.
func clamped(c, most, length int64) int64 {
	p := new(big.Int).Mul(large(c), big.NewInt(most))
	return p.Quo(p, big.NewInt(length)).Int64()
}

// P2.3, P2.4
func TestClamp(t *testing.T) {
	for _, v := range vectors() {
		length := vec.Len(v)
		for _, most := range append(numbers(), length, length-1) {
			want := api.Vec{X: max(v.X, -api.Most), Y: max(v.Y, -api.Most)}
			if m := max(most, 0); length > m {
				want = api.Vec{X: clamped(v.X, m, length), Y: clamped(v.Y, m, length)}
			}
			got := vec.Clamp(v, most)
			if got != want {
				t.Fatalf("Clamp(%v, %d) %v, want %v", v, most, got, want)
			}
			small := max(v.X, -v.X, v.Y, -v.Y) <= 1<<61 && v.X != math.MinInt64 && v.Y != math.MinInt64
			if small && vec.Len(got) > max(most, 0) {
				t.Fatalf("Clamp(%v, %d) is %d long", v, most, vec.Len(got))
			}
		}
	}
	if got := vec.Clamp(api.Vec{X: -3 * api.One, Y: 4 * api.One}, api.One); got != (api.Vec{X: -39321, Y: 52428}) {
		t.Errorf("Clamp of the example is %v", got)
	}
}

// P2.3
func TestLess(t *testing.T) {
	l := vectors()
	for i, a := range l {
		for _, b := range []api.Vec{l[(i*13+3)%len(l)], a, {X: a.X, Y: l[(i*13+3)%len(l)].Y}} {
			x, y := large(a.X).Cmp(large(b.X)), large(a.Y).Cmp(large(b.Y))
			if got, want := vec.Less(a, b), x < 0 || x == 0 && y < 0; got != want {
				t.Errorf("Less(%v, %v) %v", a, b, got)
			}
		}
	}
	if vec.Less(api.Vec{X: math.MinInt64, Y: 1}, api.Vec{X: -api.Most}) {
		t.Error("the smallest int64 counts as -Most")
	}
}
