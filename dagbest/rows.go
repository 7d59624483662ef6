package dagbest

import (
	"slices"

	"saturate/api"
)

// alternatives returns rows by which at most one variable of each class is true, as in
// minimal selections. With two of them, one could be an exit while the other one is
// selected.
func alternatives(vars []api.Choice) []api.Row {
	var rows []api.Row
	for i, v := range vars {
		if i == 0 || vars[i-1].Class != v.Class {
			rows = append(rows, api.Row{Least: -1})
		}
		last := &rows[len(rows)-1]
		last.Coefs = append(last.Coefs, api.Coef{Var: i, By: -1})
	}
	return rows
}

// exit returns a row that excludes a solution with a cycle. An acyclic selection that
// uses a class of the tangle has an exit from it: the node of one of its classes none of
// whose Args is in the tangle. The solution selects no exit.
func exit(vars []api.Choice, x []bool) api.Row {
	tangle, class := tangleOf(vars, x)
	var r api.Row
	for i, v := range vars {
		stays := slices.ContainsFunc(v.Node.Args, func(arg int) bool { return tangle[arg] })
		switch {
		case tangle[v.Class] && !stays:
			r.Coefs = append(r.Coefs, api.Coef{Var: i, By: 1})
		case v.Class == class && stays:
			r.Coefs = append(r.Coefs, api.Coef{Var: i, By: -1})
		}
	}
	return r
}

// tangleOf returns classes none of which the solution computes from leaves, and one of
// them that it selects. The candidates of each of them, and not only the selected ones,
// lead to all others: the row then excludes many cycles at once, but cannot be satisfied
// by classes that are irrelevant.
func tangleOf(vars []api.Choice, x []bool) (map[int]bool, int) {
	grounded := groundedBy(vars, x)
	reached := map[int]map[int]bool{} // by class
	first := -1
	for i, v := range vars {
		if grounded[v.Class] {
			continue
		}
		reached[v.Class] = reach(vars, grounded, v.Class)
		// The selected nodes of what reaches least lead on to classes that reach the same,
		// and so back to it.
		if x[i] && (first < 0 || len(reached[v.Class]) < len(reached[first])) {
			first = v.Class
		}
	}
	tangle := map[int]bool{}
	for class := range reached[first] {
		if reached[class][first] {
			tangle[class] = true
		}
	}
	return tangle, first
}

// groundedBy returns the classes that a solution computes from leaves.
func groundedBy(vars []api.Choice, x []bool) map[int]bool {
	grounded := map[int]bool{}
	for before := -1; before < len(grounded); {
		before = len(grounded)
		for i, v := range vars {
			if x[i] && !slices.ContainsFunc(v.Node.Args, func(arg int) bool { return !grounded[arg] }) {
				grounded[v.Class] = true
			}
		}
	}
	return grounded
}

// reach returns a class, and those to which its candidates lead, directly or not, but
// not by way of grounded ones.
func reach(vars []api.Choice, grounded map[int]bool, class int) map[int]bool {
	reached := map[int]bool{}
	var visit func(class int)
	visit = func(class int) {
		if grounded[class] || reached[class] {
			return
		}
		reached[class] = true
		for _, v := range vars {
			if v.Class != class {
				continue
			}
			for _, arg := range v.Node.Args {
				visit(arg)
			}
		}
	}
	visit(class)
	return reached
}
