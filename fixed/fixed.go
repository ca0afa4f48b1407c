// Package fixed: numbers of fixed point: see ../../shared/doc/01-fixed.md.
package fixed

import (
	"throng/api"
	"throng/wide"
)

// Add returns a + b.
func Add(a, b int64) int64 {
	a, b = counted(a), counted(b)
	switch {
	case b > 0 && a > api.Most-b:
		return api.Most
	case b < 0 && a < -api.Most-b:
		return -api.Most
	}
	return a + b
}

// Sub returns a - b.
func Sub(a, b int64) int64 { return Add(a, Neg(b)) }

// Neg returns -a.
func Neg(a int64) int64 { return -counted(a) }

// Mul returns the product of a and b, rounded down.
func Mul(a, b int64) int64 {
	return quotient(wide.Mul(size(a), size(b)), api.One, (a < 0) != (b < 0))
}

// Div returns a divided by b, rounded down.
func Div(a, b int64) int64 {
	if b == 0 {
		return int64(Cmp(a, 0)) * api.Most
	}
	return quotient(wide.Mul(size(a), api.One), size(b), (a < 0) != (b < 0))
}

// Sqrt returns the root of a, rounded down; that of a negative number is 0.
func Sqrt(a int64) int64 {
	if a < 0 {
		return 0
	}
	return int64(wide.Root(wide.Mul(uint64(a), api.One)))
}

// Cmp returns -1, 0 or 1 if a is below, equal to or above b.
func Cmp(a, b int64) int {
	a, b = counted(a), counted(b)
	switch {
	case a < b:
		return -1
	case a > b:
		return 1
	}
	return 0
}

// counted returns what a counts as: the smallest int64 has no opposite, so it counts as the next one.
func counted(a int64) int64 { return max(a, -api.Most) }

// size returns a without its sign.
func size(a int64) uint64 {
	a = counted(a)
	if a < 0 {
		return uint64(-a)
	}
	return uint64(a)
}

// quotient returns top / b, or -top / b, rounded towards minus infinity and cut off at Most.
func quotient(top wide.Num, b uint64, minus bool) int64 {
	q, rest := wide.Div(top, b)
	if minus && rest > 0 {
		q = wide.Add(q, wide.Num{Lo: 1})
	}
	if q.Hi > 0 || q.Lo > api.Most {
		q = wide.Num{Lo: api.Most}
	}
	if minus {
		return -int64(q.Lo)
	}
	return int64(q.Lo)
}
