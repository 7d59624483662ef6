package ilp

import (
	"slices"

	"saturate/api"
)

// Solve is specified in P41.4.
func Solve(p api.Problem) ([]bool, int64, api.Errno) {
	return solve(p, api.MaxRows)
}

// SolveAny is Solve without the limit of the number of rows.
func SolveAny(p api.Problem) ([]bool, int64, api.Errno) {
	return solve(p, len(p.Rows))
}

func solve(p api.Problem, rows int) ([]bool, int64, api.Errno) {
	if _, e := check(p, rows); e != api.OK {
		return nil, 0, e
	}
	chosen, ok := cheapest(rowsOf(p), pricesOf(p.Costs))
	if !ok {
		return nil, 0, api.ErrInfeasible
	}
	x := make([]bool, len(p.Costs))
	for v := range chosen.all() {
		x[v] = true
	}
	return x, Cost(p, x), api.OK
}

// cheapest returns the variables that are true in the solution of least price.
func cheapest(rows []row, all prices) (set, bool) {
	// search and branch return the cheapest solution if its price is below the limit.
	var search func(rows []row, limit price) (set, bool)
	branch := func(p part, limit price) (set, bool) {
		if costly := p.costly(limit, &all); costly != 0 {
			return search(assign(p.rows, 0, costly), limit)
		}
		v := p.decisive(&all)
		with, found := search(assign(p.rows, one(v), 0), limit.minus(all[v]))
		if found {
			with |= one(v)
			limit = all.of(with)
		}
		if without, ok := search(assign(p.rows, 0, one(v)), limit); ok {
			return without, true
		}
		return with, found
	}
	search = func(rows []row, limit price) (set, bool) {
		chosen, rows, ok := simplify(rows)
		if !ok {
			return 0, false
		}
		parts := split(rows, &all)
		total := all.of(chosen)
		for _, p := range parts {
			total = total.plus(p.bound)
		}
		for _, p := range parts {
			if !total.less(limit) {
				return 0, false
			}
			others := total.minus(p.bound)
			more, ok := branch(p, limit.minus(others))
			if !ok {
				return 0, false
			}
			chosen |= more
			total = others.plus(all.of(more))
		}
		return chosen, total.less(limit)
	}
	return search(rows, unlimited())
}

// simplify returns variables that are true in the cheapest solution, and what
// rows require of the variables that are not known to be true or false.
func simplify(rows []row) (chosen set, rest []row, ok bool) {
	for {
		ones, zeros, ok := settle(rows, 0, 0)
		if !ok {
			return 0, nil, false
		}
		if ones|zeros == 0 {
			zeros = unwanted(rows)
		}
		if ones|zeros != 0 {
			chosen |= ones
			rows = assign(rows, ones, zeros)
			continue
		}
		more := demands(rows)
		rows = withoutImplied(slices.Concat(more, rows))
		if len(more) == 0 {
			return chosen, rows, true
		}
	}
}

// unwanted returns the variables that no row wants to be true.
func unwanted(rows []row) set {
	var pos, neg set
	for _, r := range rows {
		pos |= r.pos
		neg |= r.neg
	}
	return neg &^ pos
}

// demands returns rows that follow from all rows together: one of the variables
// that a row wants to be true must be, because it cannot be that all are false.
// (In an extraction: all ways to compute the roots need some class, so that
// one of its nodes is selected. Its costs then count in the bound, and it does
// not matter any more which ways need it.)
func demands(rows []row) []row {
	var more []row
	for _, r := range rows {
		demand := anyOf(r.pos)
		isKnown := func(known row) bool { return known.implies(demand) }
		if r.neg == 0 || r.pos == 0 || slices.ContainsFunc(rows, isKnown) || slices.ContainsFunc(more, isKnown) {
			continue
		}
		if _, _, ok := settle(rows, 0, r.pos); !ok {
			more = append(more, demand)
		}
	}
	return more
}

// withoutImplied drops rows that hold because one of some variables is true.
func withoutImplied(rows []row) []row {
	var reasons []int // the rows that may imply others; they can be few among many
	for k, r := range rows {
		if r.neg == 0 {
			reasons = append(reasons, k)
		}
	}
	rest := make([]row, 0, len(rows))
	for i, r := range rows {
		implied := slices.ContainsFunc(reasons, func(k int) bool {
			return k != i && rows[k].implies(r) && (k < i || !r.implies(rows[k]))
		})
		if !implied {
			rest = append(rest, r)
		}
	}
	return rest
}
