package lower

import (
	"slices"

	"saturate/api"
)

// generate returns instructions that compute terms in the registers of out: the
// fewest that it finds with several orders of the operations. It returns false if
// the registers are too few for all of them.
func generate(w, regs int, terms []api.Term, out []int) ([]api.Ins, bool) {
	g := newGenerator(w, terms, out)
	var best []api.Ins
	found := false
	for _, order := range g.orders() {
		a := newAllocation(g, regs, order)
		if a.run() && (!found || len(a.ins) < len(best)) {
			best, found = a.ins, true
		}
	}
	return best, found
}

// orders returns several orders of the operations. None of them is always the best
// one.
func (g *generator) orders() [][]int {
	needs := g.needs()
	var orders [][]int
	for _, arrange := range []func([]int){
		func(sources []int) {
			slices.SortStableFunc(sources, func(m, n int) int { return needs[n] - needs[m] })
		},
		func([]int) {},
		slices.Reverse[[]int],
	} {
		for _, turn := range []func([]int){func([]int) {}, slices.Reverse[[]int]} {
			roots := slices.Clone(g.told[:])
			turn(roots)
			orders = append(orders, g.schedule(roots, arrange))
		}
	}
	return orders
}

// needs returns for each step how many registers it needs, beside those of initial
// values, if the sources that need most are computed first.
func (g *generator) needs() []int {
	needs := make([]int, len(g.steps))
	for n, s := range g.steps {
		if s.op == api.MNop {
			continue
		}
		var l []int
		for _, source := range g.sources(n) {
			l = append(l, needs[source])
		}
		slices.Sort(l)
		slices.Reverse(l)
		needs[n] = 1
		for k, need := range l {
			needs[n] = max(needs[n], need+k)
		}
	}
	return needs
}

// schedule puts operations into an order. Each one comes after its sources, and, where
// this is possible, after those that need the initial value of a register that has to
// have it at the end.
type schedule struct {
	*generator
	arrange func([]int)        // puts the sources of an operation into the order in which they are computed
	readers [api.MaxRegs][]int // by register, the operations that need its initial value
	late    [][]bool           // for the operations that wait for readers, by step whether it depends on them
	done    []bool
	order   []int
}

// schedule returns the operations for some steps, which are computed in turn.
func (g *generator) schedule(roots []int, arrange func([]int)) []int {
	s := &schedule{generator: g, arrange: arrange, done: make([]bool, len(g.steps))}
	for n := range g.steps {
		for _, source := range g.sources(n) {
			if from := g.steps[source]; from.op == api.MNop {
				s.readers[from.imm] = append(s.readers[from.imm], n)
			}
		}
	}
	for _, n := range roots {
		s.visit(n)
	}
	return s.order
}

// visit adds an operation, and before it those that it comes after.
func (s *schedule) visit(n int) {
	if n == none || s.done[n] || !s.isOperation(n) {
		return
	}
	s.done[n] = true
	sources := s.sources(n)
	s.arrange(sources)
	for _, source := range sources {
		s.visit(source)
	}
	for r, m := range s.told {
		if m == n {
			s.late = append(s.late, s.dependents(n))
			s.visitReaders(r)
			s.late = s.late[:len(s.late)-1]
		}
	}
	s.order = append(s.order, n)
}

// visitReaders adds the readers of a register that do not depend on operations that
// wait for them.
func (s *schedule) visitReaders(r int) {
	for _, n := range s.readers[r] {
		if !slices.ContainsFunc(s.late, func(set []bool) bool { return set[n] }) {
			s.visit(n)
		}
	}
}

// dependents returns for each step whether it is the given one or depends on it.
func (g *generator) dependents(n int) []bool {
	set := make([]bool, len(g.steps))
	set[n] = true
	for k := range g.steps {
		for _, source := range g.sources(k) {
			set[k] = set[k] || set[source]
		}
	}
	return set
}
