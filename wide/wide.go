// Package wide: numbers of 128 bits, not below 0, for products that 64 bits cannot hold.
package wide

// Num is Hi * 2^64 + Lo.
type Num struct {
	Hi uint64
	Lo uint64
}

const half = 1<<32 - 1

// Mul returns the exact product of a and b.
func Mul(a, b uint64) Num {
	aLow, aHigh := a&half, a>>32
	bLow, bHigh := b&half, b>>32
	low := aLow * bLow
	// Neither sum overflows: (2^32 - 1)^2 + 2^32 - 1 is below 2^64.
	middle := aHigh*bLow + low>>32
	cross := aLow*bHigh + middle&half
	return Num{Hi: aHigh*bHigh + middle>>32 + cross>>32, Lo: cross<<32 | low&half}
}

// Add returns a + b, which must be below 2^128.
func Add(a, b Num) Num {
	sum := Num{Hi: a.Hi + b.Hi, Lo: a.Lo + b.Lo}
	if sum.Lo < a.Lo {
		sum.Hi++
	}
	return sum
}

// Less reports whether a is below b.
func Less(a, b Num) bool {
	return a.Hi < b.Hi || a.Hi == b.Hi && a.Lo < b.Lo
}

// Div returns a divided by b, rounded down, and the rest. b must be from 1 to 2^63: the rest, doubled, has to fit into 64 bits.
func Div(a Num, b uint64) (Num, uint64) {
	quotient := Num{Hi: a.Hi / b}
	rest := a.Hi % b
	if rest == 0 {
		quotient.Lo = a.Lo / b
		return quotient, a.Lo % b
	}
	for i := 63; i >= 0; i-- {
		rest = rest<<1 | a.Lo>>i&1
		quotient.Lo <<= 1
		if rest >= b {
			rest -= b
			quotient.Lo |= 1
		}
	}
	return quotient, rest
}

// Root returns the largest r with r * r <= a.
func Root(a Num) uint64 {
	top := 31
	if a.Hi > 0 {
		top = 63
	}
	root := uint64(0)
	for i := top; i >= 0; i-- {
		next := root | 1<<i
		if !Less(a, Mul(next, next)) {
			root = next
		}
	}
	return root
}
