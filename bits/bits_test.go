package bits_test

import (
	"math"
	"math/big"
	"math/rand/v2"
	"testing"

	"saturate/bits"
)

// widths has widths of every kind, and numbers that have to be clamped.
var widths = []int{math.MinInt, -64, -1, 0, 1, 2, 3, 4, 5, 7, 8, 9, 16, 31, 32, 33, 48, 63, 64, 65, 100, 128, math.MaxInt}

// effective returns the width that w is clamped to.
func effective(w int) int {
	switch {
	case w < 1:
		return 1
	case w > 64:
		return 64
	}
	return w
}

// values returns numbers at the limits of width w, small ones, and others.
func values(w int) []uint64 {
	w = effective(w)
	top := uint64(1) << (w - 1)
	list := []uint64{0, 1, 2, 3, 5, uint64(w) - 1, uint64(w), uint64(w) + 1, 63, 64, 65, top - 1, top, top + 1, 2*top - 2, 2*top - 1, 2 * top, 2*top + 1, 3 * top, math.MaxUint64}
	random := rand.New(rand.NewPCG(uint64(w), 7))
	for range 8 {
		list = append(list, random.Uint64(), random.Uint64()>>random.IntN(64))
	}
	return list
}

func number(x uint64) *big.Int {
	return new(big.Int).SetUint64(x)
}

// power returns 2^n.
func power(n int) *big.Int {
	return new(big.Int).Lsh(big.NewInt(1), uint(n))
}

// modulo returns x modulo 2^w, from 0 on.
func modulo(w int, x *big.Int) *big.Int {
	return new(big.Int).Mod(x, power(effective(w)))
}

// signed returns the number that x stands for in two's complement.
func signed(w int, x uint64) *big.Int {
	y := modulo(w, number(x))
	if y.Cmp(power(effective(w)-1)) >= 0 {
		y.Sub(y, power(effective(w)))
	}
	return y
}

// checkBinary compares an operation with one on numbers, for all widths and values.
// exact is given operands that are reduced already, and its result is reduced afterwards.
func checkBinary(t *testing.T, name string, got func(w int, a, b uint64) uint64, exact func(w int, a, b *big.Int) *big.Int) {
	t.Helper()
	check := func(w int, a, b uint64) {
		want := modulo(w, exact(effective(w), modulo(w, number(a)), modulo(w, number(b)))).Uint64()
		if x := got(w, a, b); x != want {
			t.Fatalf("%s(%d, %d, %d) is %d, not %d", name, w, a, b, x, want)
		}
	}
	for w := 1; w <= 4; w++ {
		for a := range uint64(2) << w {
			for b := range uint64(2) << w {
				check(w, a, b)
			}
		}
	}
	for _, w := range widths {
		for _, a := range values(w) {
			for _, b := range values(w) {
				check(w, a, b)
			}
		}
	}
}

func checkUnary(t *testing.T, name string, got func(w int, a uint64) uint64, exact func(w int, a *big.Int) *big.Int) {
	t.Helper()
	checkBinary(t, name, func(w int, a, _ uint64) uint64 { return got(w, a) }, func(w int, a, _ *big.Int) *big.Int { return exact(w, a) })
}

// TestMaskCutSigned checks P1.1.
func TestMaskCutSigned(t *testing.T) {
	for _, w := range widths {
		want := new(big.Int).Sub(power(effective(w)), big.NewInt(1)).Uint64()
		if x := bits.Mask(w); x != want {
			t.Errorf("Mask(%d) is %d", w, x)
		}
		for _, x := range values(w) {
			if y, want := bits.Signed(w, x), signed(w, x); y != want.Int64() {
				t.Errorf("Signed(%d, %d) is %d, not %d", w, x, y, want)
			}
		}
	}
	checkUnary(t, "Cut", bits.Cut, func(w int, a *big.Int) *big.Int { return a })
	if bits.Mask(0) != 1 || bits.Mask(-3) != 1 || bits.Mask(65) != math.MaxUint64 || bits.Cut(4, 27) != 11 {
		t.Error("Mask, Cut")
	}
	if bits.Signed(1, 1) != -1 || bits.Signed(4, 8) != -8 || bits.Signed(4, 7) != 7 || bits.Signed(64, 1<<63) != math.MinInt64 || bits.Signed(70, math.MaxUint64) != -1 {
		t.Error("Signed")
	}
}

// TestLogicAndArithmetic checks P1.2.
func TestLogicAndArithmetic(t *testing.T) {
	checkUnary(t, "Not", bits.Not, func(w int, a *big.Int) *big.Int { return new(big.Int).Not(a) })
	checkUnary(t, "Neg", bits.Neg, func(w int, a *big.Int) *big.Int { return new(big.Int).Neg(a) })
	checkBinary(t, "And", bits.And, func(w int, a, b *big.Int) *big.Int { return new(big.Int).And(a, b) })
	checkBinary(t, "Or", bits.Or, func(w int, a, b *big.Int) *big.Int { return new(big.Int).Or(a, b) })
	checkBinary(t, "Xor", bits.Xor, func(w int, a, b *big.Int) *big.Int { return new(big.Int).Xor(a, b) })
	checkBinary(t, "Add", bits.Add, func(w int, a, b *big.Int) *big.Int { return new(big.Int).Add(a, b) })
	checkBinary(t, "Sub", bits.Sub, func(w int, a, b *big.Int) *big.Int { return new(big.Int).Sub(a, b) })
	checkBinary(t, "Mul", bits.Mul, func(w int, a, b *big.Int) *big.Int { return new(big.Int).Mul(a, b) })
	if bits.Add(4, 9, 9) != 2 || bits.Sub(4, 1, 2) != 15 || bits.Neg(4, 0) != 0 || bits.Mul(64, 1<<63, 2) != 0 || bits.Not(1, 1) != 0 {
		t.Error("examples")
	}
}

// TestDivision checks P1.3.
func TestDivision(t *testing.T) {
	checkBinary(t, "Udiv", bits.Udiv, func(w int, a, b *big.Int) *big.Int {
		if b.Sign() == 0 {
			return big.NewInt(-1)
		}
		return new(big.Int).Div(a, b)
	})
	checkBinary(t, "Urem", bits.Urem, func(w int, a, b *big.Int) *big.Int {
		if b.Sign() == 0 {
			return a
		}
		return new(big.Int).Mod(a, b)
	})
	if bits.Udiv(4, 7, 0) != 15 || bits.Udiv(4, 0, 0) != 15 || bits.Urem(4, 7, 0) != 7 || bits.Udiv(4, 7, 16) != 15 || bits.Urem(4, 23, 16) != 7 || bits.Udiv(64, 3, 0) != math.MaxUint64 {
		t.Error("division by 0")
	}
	if bits.Udiv(4, 15, 4) != 3 || bits.Urem(4, 15, 4) != 3 || bits.Udiv(64, math.MaxUint64, 1<<63) != 1 {
		t.Error("rounding")
	}
}

// TestShifts checks P1.4.
func TestShifts(t *testing.T) {
	// An amount of 64 or more gives the same as 64, and does not need as much memory.
	amount := func(b *big.Int) uint {
		if b.Cmp(big.NewInt(64)) > 0 {
			return 64
		}
		return uint(b.Uint64())
	}
	checkBinary(t, "Shl", bits.Shl, func(w int, a, b *big.Int) *big.Int { return new(big.Int).Lsh(a, amount(b)) })
	checkBinary(t, "Lshr", bits.Lshr, func(w int, a, b *big.Int) *big.Int { return new(big.Int).Rsh(a, amount(b)) })
	checkBinary(t, "Ashr", bits.Ashr, func(w int, a, b *big.Int) *big.Int {
		return new(big.Int).Rsh(signed(w, a.Uint64()), amount(b))
	})
	for _, w := range []int{2, 3, 8, 33, 64} {
		for _, b := range []uint64{uint64(w), uint64(w) + 1, bits.Mask(w)} {
			if b < uint64(w) || b > bits.Mask(w) {
				continue
			}
			top := uint64(1) << (w - 1)
			if bits.Shl(w, bits.Mask(w), b) != 0 || bits.Lshr(w, bits.Mask(w), b) != 0 {
				t.Errorf("Shl or Lshr of width %d by %d is not 0", w, b)
			}
			if bits.Ashr(w, top, b) != bits.Mask(w) || bits.Ashr(w, top-1, b) != 0 {
				t.Errorf("Ashr of width %d by %d", w, b)
			}
		}
	}
	if bits.Shl(1, 1, 1) != 0 || bits.Lshr(1, 1, 1) != 0 || bits.Ashr(1, 1, 1) != 1 || bits.Shl(64, 1, 63) != 1<<63 || bits.Ashr(4, 8, 1) != 12 || bits.Ashr(4, 15, 3) != 15 {
		t.Error("examples")
	}
}

// TestComparisons checks P1.5.
func TestComparisons(t *testing.T) {
	truth := func(holds bool) *big.Int {
		if holds {
			return big.NewInt(1)
		}
		return big.NewInt(0)
	}
	checkBinary(t, "Eq", bits.Eq, func(w int, a, b *big.Int) *big.Int { return truth(a.Cmp(b) == 0) })
	checkBinary(t, "Ult", bits.Ult, func(w int, a, b *big.Int) *big.Int { return truth(a.Cmp(b) < 0) })
	checkBinary(t, "Slt", bits.Slt, func(w int, a, b *big.Int) *big.Int {
		return truth(signed(w, a.Uint64()).Cmp(signed(w, b.Uint64())) < 0)
	})
	if bits.Slt(4, 15, 0) != 1 || bits.Slt(4, 0, 15) != 0 || bits.Ult(4, 15, 0) != 0 || bits.Eq(4, 17, 1) != 1 || bits.Slt(1, 1, 0) != 1 || bits.Slt(64, 1<<63, 0) != 1 {
		t.Error("examples")
	}
}

// TestConcatExtractSext checks P1.6.
func TestConcatExtractSext(t *testing.T) {
	low64 := func(x *big.Int) uint64 { return modulo(64, x).Uint64() }
	for _, w := range widths {
		for _, v := range widths {
			for _, a := range values(w) {
				for _, b := range values(v)[:12] {
					high := new(big.Int).Mul(modulo(w, number(a)), power(effective(v)))
					want := low64(high.Add(high, modulo(v, number(b))))
					if x := bits.Concat(w, v, a, b); x != want {
						t.Fatalf("Concat(%d, %d, %d, %d) is %d, not %d", w, v, a, b, x, want)
					}
				}
				if x, want := bits.Sext(w, v, a), modulo(v, signed(w, a)).Uint64(); x != want {
					t.Fatalf("Sext(%d, %d, %d) is %d, not %d", w, v, a, x, want)
				}
			}
		}
		for _, low := range []int{math.MinInt, -65, -64, -1, 0, 1, 3, 31, 32, 60, 62, 63, 64, 65, 1 << 32, math.MaxInt} {
			for _, x := range values(64) {
				want := uint64(0)
				if 0 <= low && low < 64 {
					want = modulo(w, new(big.Int).Rsh(number(x), uint(low))).Uint64()
				}
				if y := bits.Extract(low, w, x); y != want {
					t.Fatalf("Extract(%d, %d, %d) is %d, not %d", low, w, x, y, want)
				}
			}
		}
	}
	if bits.Concat(4, 8, 5, 255) != 1535 || bits.Concat(64, 64, 7, 9) != 9 || bits.Concat(8, 60, 255, 1) != 15<<60|1 || bits.Concat(0, 4, 3, 2) != 18 {
		t.Error("Concat")
	}
	if bits.Extract(4, 4, 0xab) != 10 || bits.Extract(62, 8, math.MaxUint64) != 3 || bits.Extract(-1, 8, 255) != 0 || bits.Extract(64, 8, math.MaxUint64) != 0 {
		t.Error("Extract")
	}
	if bits.Sext(4, 8, 9) != 249 || bits.Sext(4, 8, 25) != 249 || bits.Sext(4, 8, 5) != 5 || bits.Sext(8, 4, 249) != 9 || bits.Sext(1, 64, 1) != math.MaxUint64 {
		t.Error("Sext")
	}
}

// TestCountLowestHighest checks P1.7.
func TestCountLowestHighest(t *testing.T) {
	for _, x := range append(values(64), values(9)...) {
		count, lowest, highest := 0, -1, -1
		for i := range 64 {
			if x>>i&1 == 1 {
				count++
				highest = i
				if lowest < 0 {
					lowest = i
				}
			}
		}
		if bits.Count(x) != count || bits.Lowest(x) != lowest || bits.Highest(x) != highest {
			t.Errorf("of %d: %d %d %d", x, bits.Count(x), bits.Lowest(x), bits.Highest(x))
		}
	}
	if bits.Count(0) != 0 || bits.Lowest(0) != -1 || bits.Highest(0) != -1 || bits.Count(math.MaxUint64) != 64 || bits.Highest(1<<63) != 63 || bits.Lowest(1<<63) != 63 {
		t.Error("limits")
	}
}

// TestLaws checks P1.8.
func TestLaws(t *testing.T) {
	operations := []func(w int, a, b uint64) uint64{
		bits.And, bits.Or, bits.Xor, bits.Add, bits.Sub, bits.Mul, bits.Udiv, bits.Urem,
		bits.Shl, bits.Lshr, bits.Ashr, bits.Eq, bits.Ult, bits.Slt,
		func(w int, a, b uint64) uint64 { return bits.Cut(w, a) },
		func(w int, a, b uint64) uint64 { return bits.Not(w, a) },
		func(w int, a, b uint64) uint64 { return bits.Neg(w, a) },
		func(w int, a, b uint64) uint64 { return bits.Extract(int(b%70), w, a) },
		func(w int, a, b uint64) uint64 { return bits.Sext(int(b%70), w, a) },
	}
	for _, w := range widths {
		for _, a := range values(w) {
			for _, b := range values(w) {
				for i, f := range operations {
					if x := f(w, a, b); x > bits.Mask(w) {
						t.Fatalf("operation %d of width %d gives %d for %d, %d", i, w, x, a, b)
					}
				}
				product := bits.Mul(w, bits.Udiv(w, a, b), b)
				if bits.Add(w, product, bits.Urem(w, a, b)) != bits.Cut(w, a) {
					t.Fatalf("quotient and remainder of width %d, %d, %d", w, a, b)
				}
				if c, d := bits.Cut(w, a), bits.Cut(w, b); d != 0 && bits.Udiv(w, a, b)*d+bits.Urem(w, a, b) != c {
					t.Fatalf("quotient and remainder of width %d, %d, %d", w, a, b)
				}
				if bits.Sub(w, a, b) != bits.Add(w, a, bits.Neg(w, b)) {
					t.Fatalf("Sub and Neg of width %d, %d, %d", w, a, b)
				}
			}
			if bits.Not(w, a) != bits.Sub(w, bits.Mask(w), a) {
				t.Fatalf("Not and Sub of width %d, %d", w, a)
			}
		}
	}
}
