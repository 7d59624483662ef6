package enum

import (
	"math/bits"

	"saturate/api"
	"saturate/opinfo"
)

// shape tells how the widths of the operands of an operator and that of its
// value depend on each other.
type shape int

const (
	unary   shape = iota // the width of the operand
	uniform              // two operands, with this width
	test                 // two operands of any width, and a value of width 1
	choice               // a condition, and two operands with this width
	joined               // two operands, the sum of whose widths this is
)

func shapeOf(op api.Op) shape {
	switch op {
	case api.OpEq, api.OpUlt, api.OpSlt:
		return test
	case api.OpIte:
		return choice
	case api.OpConcat:
		return joined
	}
	if opinfo.Arity(op) == 1 {
		return unary
	}
	return uniform
}

// row has a number for each width. Numbers are at most api.Infinite.
type row [api.MaxWidth + 1]uint64

// tally has the numbers of terms of each size, and those of pairs of terms of
// one width with each total size.
type tally struct {
	shapes [joined + 1]uint64 // the numbers of operators
	terms  []row
	pairs  []row
}

// newTally counts the terms of at most the given size, which is at least 1.
func newTally(leaves []api.Term, ops []api.Op, size int) *tally {
	y := &tally{terms: make([]row, size+1), pairs: make([]row, size+1)}
	for _, op := range ops {
		y.shapes[shapeOf(op)]++
	}
	for _, leaf := range leaves {
		y.terms[1][leaf.Width]++
	}
	for n := 2; n <= size; n++ {
		for w := 1; w <= api.MaxWidth; w++ {
			y.pairs[n-1][w] = y.countPairs(n-1, w, w)
		}
		for w := 1; w <= api.MaxWidth; w++ {
			y.terms[n][w] = y.countNodes(n-1, w)
		}
	}
	return y
}

// countPairs returns the number of pairs of terms of widths v and w with a total size.
func (y *tally) countPairs(size, v, w int) uint64 {
	sum := uint64(0)
	for i := 1; i < size; i++ {
		sum = plus(sum, times(y.terms[i][v], y.terms[size-i][w]))
	}
	return sum
}

// countNodes returns the number of terms of width w whose operands have a total size.
func (y *tally) countNodes(size, w int) uint64 {
	sum := times(y.shapes[unary], y.terms[size][w])
	sum = plus(sum, times(y.shapes[uniform], y.pairs[size][w]))
	if y.shapes[choice] > 0 {
		for i := 1; i < size; i++ {
			sum = plus(sum, times(y.terms[i][1], y.pairs[size-i][w]))
		}
	}
	if y.shapes[joined] > 0 {
		for v := 1; v < w; v++ {
			sum = plus(sum, y.countPairs(size, v, w-v))
		}
	}
	if y.shapes[test] > 0 && w == 1 {
		for _, pairs := range y.pairs[size] {
			sum = plus(sum, times(y.shapes[test], pairs))
		}
	}
	return sum
}

func plus(a, b uint64) uint64 {
	return min(a+b, api.Infinite)
}

func times(a, b uint64) uint64 {
	high, low := bits.Mul64(a, b)
	if high > 0 {
		return api.Infinite
	}
	return min(low, api.Infinite)
}
