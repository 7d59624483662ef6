package enum

import (
	"iter"
	"math/bits"
	"slices"

	"saturate/api"
	"saturate/term"
)

// widthSet has bit w if it contains the width w + 1.
type widthSet uint64

const everyWidth = ^widthSet(0)

func only(w int) widthSet {
	return 1 << (w - 1)
}

func (s widthSet) has(w int) bool {
	return s&only(w) != 0
}

// all yields the widths in increasing order.
func (s widthSet) all() iter.Seq[int] {
	return func(yield func(int) bool) {
		for rest := s; rest != 0; rest &= rest - 1 {
			if !yield(bits.TrailingZeros64(uint64(rest)) + 1) {
				return
			}
		}
	}
}

// space is what the terms of a grammar are enumerated from.
type space struct {
	leaves []api.Term // in increasing order
	ops    []api.Op   // in increasing order
	widths []widthSet // by size, those of the terms of this size
}

// newSpace prepares a valid grammar. It keeps no memory of it.
func newSpace(g api.Grammar) *space {
	s := &space{leaves: leaves(g), ops: slices.Sorted(slices.Values(g.Ops)), widths: make([]widthSet, g.Size+1)}
	y := newTally(s.leaves, s.ops, max(g.Size, 1))
	for size := range s.widths {
		for w := 1; w <= api.MaxWidth; w++ {
			if y.terms[size][w] > 0 {
				s.widths[size] |= only(w)
			}
		}
	}
	return s
}

// leaves returns the different leaves of a grammar in increasing order.
func leaves(g api.Grammar) []api.Term {
	var list []api.Term
	for _, v := range g.Vars {
		list = append(list, term.Var(v.Name, v.Width))
	}
	for _, c := range g.Consts {
		list = append(list, term.Const(c.Width, c.Val))
	}
	slices.SortFunc(list, term.Compare)
	return slices.CompactFunc(list, term.Same)
}

// The iterators below yield in increasing order. What they yield shares memory.
// They go on to operands only where these can be completed to a term, so that
// no time is lost where there are no terms.

// levels yields all terms.
func (s *space) levels() iter.Seq[api.Term] {
	return func(yield func(api.Term) bool) {
		for size := 1; size < len(s.widths); size++ {
			for t := range s.terms(size, everyWidth) {
				if !yield(t) {
					return
				}
			}
		}
	}
}

// terms yields the terms of a size whose widths are in a set.
func (s *space) terms(size int, widths widthSet) iter.Seq[api.Term] {
	if size == 1 {
		return s.leavesOf(widths)
	}
	return func(yield func(api.Term) bool) {
		for _, op := range s.ops {
			for w := range (widths & s.widths[size]).all() {
				for args := range s.operands(op, w, size-1) {
					if !yield(api.Term{Op: op, Width: w, Args: args}) {
						return
					}
				}
			}
		}
	}
}

func (s *space) leavesOf(widths widthSet) iter.Seq[api.Term] {
	return func(yield func(api.Term) bool) {
		for _, leaf := range s.leaves {
			if widths.has(leaf.Width) && !yield(leaf) {
				return
			}
		}
	}
}

// operands yields the operands, of a total size, that give op a value of width w.
func (s *space) operands(op api.Op, w, size int) iter.Seq[[]api.Term] {
	switch shapeOf(op) {
	case unary:
		return s.singles(size, w)
	case choice:
		return s.choices(size, w)
	case joined:
		return s.pairs(size, only(w)-1, func(v int) int { return w - v })
	case test:
		if w > 1 {
			return s.pairs(size, 0, same)
		}
		return s.pairs(size, everyWidth, same)
	}
	return s.pairs(size, only(w), same)
}

// singles yields the terms of width w as lists.
func (s *space) singles(size, w int) iter.Seq[[]api.Term] {
	return func(yield func([]api.Term) bool) {
		for t := range s.terms(size, only(w)) {
			if !yield([]api.Term{t}) {
				return
			}
		}
	}
}

// pairs yields the pairs of terms with a total size, the first of which has a
// width in a set, and the second one the width that partner returns for it.
func (s *space) pairs(size int, widths widthSet, partner func(w int) int) iter.Seq[[]api.Term] {
	return func(yield func([]api.Term) bool) {
		for left := 1; left < size; left++ {
			for a := range s.terms(left, s.paired(left, size-left, widths, partner)) {
				for b := range s.terms(size-left, only(partner(a.Width))) {
					if !yield([]api.Term{a, b}) {
						return
					}
				}
			}
		}
	}
}

// paired returns those of the widths with which there are both a first term of
// size left and a second one of size right.
func (s *space) paired(left, right int, widths widthSet, partner func(w int) int) widthSet {
	var result widthSet
	for w := range (widths & s.widths[left]).all() {
		if s.widths[right].has(partner(w)) {
			result |= only(w)
		}
	}
	return result
}

// choices yields the operands of ite.
func (s *space) choices(size, w int) iter.Seq[[]api.Term] {
	return func(yield func([]api.Term) bool) {
		for left := 1; left < size; left++ {
			branches := s.pairs(size-left, only(w), same)
			if isEmpty(branches) {
				continue
			}
			for condition := range s.terms(left, only(1)) {
				for pair := range branches {
					if !yield([]api.Term{condition, pair[0], pair[1]}) {
						return
					}
				}
			}
		}
	}
}

func isEmpty(lists iter.Seq[[]api.Term]) bool {
	for range lists {
		return false
	}
	return true
}

func same(w int) int {
	return w
}
