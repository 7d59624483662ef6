// Package bits is layer 1: fixed-width bit-vector arithmetic. See shared/doc/01-bits.md.
package bits

import (
	mathbits "math/bits"
)

// clamp returns the width from 1 to 64 that w stands for.
func clamp(w int) int {
	return min(max(w, 1), 64)
}

// Mask is specified in P1.1.
func Mask(w int) uint64 {
	return ^uint64(0) >> (64 - clamp(w))
}

// Cut is specified in P1.1.
func Cut(w int, x uint64) uint64 {
	return x & Mask(w)
}

// Signed is specified in P1.1.
func Signed(w int, x uint64) int64 {
	unused := 64 - clamp(w)
	return int64(x<<unused) >> unused
}

// operation selects what combine computes.
type operation int

const (
	add operation = iota
	sub
	eq
	ult
	slt
)

// combine reduces both operands and computes one of the operations whose code
// is shared: sub and slt only prepare the operands of add and ult.
func combine(op operation, w int, a, b uint64) uint64 {
	a, b = Cut(w, a), Cut(w, b)
	switch op {
	case sub:
		b = -b
		fallthrough
	case add:
		return Cut(w, a+b)
	case slt:
		// Flipping the highest bits turns the signed order into the unsigned one.
		highest := Mask(w) ^ Mask(w)>>1
		a, b = a^highest, b^highest
		fallthrough
	case ult:
		return truth(a < b)
	default:
		return truth(a == b)
	}
}

// truth returns the bit that stands for a condition.
func truth(holds bool) uint64 {
	if holds {
		return 1
	}
	return 0
}

// Not is specified in P1.2.
func Not(w int, a uint64) uint64 {
	return Cut(w, ^a)
}

// Neg is specified in P1.2.
func Neg(w int, a uint64) uint64 {
	return Cut(w, -a)
}

// And is specified in P1.2.
func And(w int, a, b uint64) uint64 {
	return Cut(w, a&b)
}

// Or is specified in P1.2.
func Or(w int, a, b uint64) uint64 {
	return Cut(w, a|b)
}

// Xor is specified in P1.2.
func Xor(w int, a, b uint64) uint64 {
	return Cut(w, a^b)
}

// Add is specified in P1.2.
func Add(w int, a, b uint64) uint64 {
	return combine(add, w, a, b)
}

// Sub is specified in P1.2.
func Sub(w int, a, b uint64) uint64 {
	return combine(sub, w, a, b)
}

// Mul is specified in P1.2.
func Mul(w int, a, b uint64) uint64 {
	return Cut(w, a*b)
}

// Udiv is specified in P1.3.
func Udiv(w int, a, b uint64) uint64 {
	a, b = Cut(w, a), Cut(w, b)
	if b == 0 {
		return Mask(w)
	}
	return a / b
}

// Urem is specified in P1.3.
func Urem(w int, a, b uint64) uint64 {
	a, b = Cut(w, a), Cut(w, b)
	if b == 0 {
		return a
	}
	return a % b
}

// The shifts need no test for amounts of w or more: Go shifts every bit of the
// value out, or fills it with the sign.

// Shl is specified in P1.4.
func Shl(w int, a, b uint64) uint64 {
	return Cut(w, a<<Cut(w, b))
}

// Lshr is specified in P1.4.
func Lshr(w int, a, b uint64) uint64 {
	return Cut(w, a) >> Cut(w, b)
}

// Ashr is specified in P1.4.
func Ashr(w int, a, b uint64) uint64 {
	return Cut(w, uint64(Signed(w, a)>>Cut(w, b)))
}

// Eq is specified in P1.5.
func Eq(w int, a, b uint64) uint64 {
	return combine(eq, w, a, b)
}

// Ult is specified in P1.5.
func Ult(w int, a, b uint64) uint64 {
	return combine(ult, w, a, b)
}

// Slt is specified in P1.5.
func Slt(w int, a, b uint64) uint64 {
	return combine(slt, w, a, b)
}

// Concat is specified in P1.6.
func Concat(wa, wb int, a, b uint64) uint64 {
	return Cut(wa, a)<<clamp(wb) | Cut(wb, b)
}

// Extract is specified in P1.6.
func Extract(low, w int, x uint64) uint64 {
	if low < 0 {
		return 0
	}
	return Cut(w, x>>low)
}

// Sext is specified in P1.6.
func Sext(from, to int, x uint64) uint64 {
	return Cut(to, uint64(Signed(from, x)))
}

// Count is specified in P1.7.
func Count(x uint64) int {
	return mathbits.OnesCount64(x)
}

// Lowest is specified in P1.7.
func Lowest(x uint64) int {
	if x == 0 {
		return -1
	}
	return mathbits.TrailingZeros64(x)
}

// Highest is specified in P1.7.
func Highest(x uint64) int {
	return mathbits.Len64(x) - 1
}
