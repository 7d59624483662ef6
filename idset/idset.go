// Package idset is layer 3: sorted sets of ids and a priority work list. See shared/doc/03-idset.md.
package idset

import (
	"slices"
)

// Of is specified in P3.1.
func Of(l ...int) []int {
	set := slices.Clone(l)
	slices.Sort(set)
	return slices.Compact(set)
}

// Valid is specified in P3.1.
func Valid(s []int) bool {
	for i := 1; i < len(s); i++ {
		if s[i-1] >= s[i] {
			return false
		}
	}
	return true
}

// asSet returns the set that an argument stands for. It may be the argument
// itself, so that callers must not change it or return a part of it.
func asSet(s []int) []int {
	if Valid(s) {
		return s
	}
	return Of(s...)
}

// Has is specified in P3.2.
func Has(s []int, x int) bool {
	return slices.Contains(s, x)
}

// Add is specified in P3.2.
func Add(s []int, x int) []int {
	return Union(s, []int{x})
}

// Remove is specified in P3.2.
func Remove(s []int, x int) []int {
	return Minus(s, []int{x})
}

// merge hands the elements of a and b to visit, in increasing order and each
// with the sets that it belongs to, until visit returns false.
func merge(a, b []int, visit func(x int, inA, inB bool) bool) {
	a, b = asSet(a), asSet(b)
	for len(a) > 0 || len(b) > 0 {
		inA := len(b) == 0 || len(a) > 0 && a[0] <= b[0]
		inB := len(a) == 0 || len(b) > 0 && b[0] <= a[0]
		x := 0
		if inA {
			x, a = a[0], a[1:]
		}
		if inB {
			x, b = b[0], b[1:]
		}
		if !visit(x, inA, inB) {
			return
		}
	}
}

// choose returns the elements of a and b for which keep returns true.
func choose(a, b []int, keep func(inA, inB bool) bool) []int {
	var chosen []int
	merge(a, b, func(x int, inA, inB bool) bool {
		if keep(inA, inB) {
			chosen = append(chosen, x)
		}
		return true
	})
	return chosen
}

// Union is specified in P3.3.
func Union(a, b []int) []int {
	return choose(a, b, func(inA, inB bool) bool { return inA || inB })
}

// Meet is specified in P3.3.
func Meet(a, b []int) []int {
	return choose(a, b, func(inA, inB bool) bool { return inA && inB })
}

// Minus is specified in P3.3.
func Minus(a, b []int) []int {
	return choose(a, b, func(inA, inB bool) bool { return inA && !inB })
}

// every reports whether all elements of a and b satisfy holds.
func every(a, b []int, holds func(inA, inB bool) bool) bool {
	result := true
	merge(a, b, func(_ int, inA, inB bool) bool {
		result = holds(inA, inB)
		return result
	})
	return result
}

// Subset is specified in P3.3.
func Subset(a, b []int) bool {
	return every(a, b, func(inA, inB bool) bool { return inB })
}

// Equal is specified in P3.3.
func Equal(a, b []int) bool {
	return every(a, b, func(inA, inB bool) bool { return inA && inB })
}

// Index is specified in P3.2.
func Index(s []int, x int) int {
	i, _ := slices.BinarySearch(asSet(s), x)
	return i
}
