package encode_test

import (
	"math/rand/v2"
	"slices"
	"testing"

	"saturate/api"
	"saturate/cost"
	"saturate/egraph"
	"saturate/encode"
	"saturate/ilp"
	"saturate/selection"
)

// randomGraph returns a rebuilt e-graph in which many terms are equal, whatever their values are.
func randomGraph(t *testing.T, r *rand.Rand) *egraph.Graph {
	t.Helper()
	g := graph(t, "x:8", "y:8", "1:8")
	size := 5 + r.IntN(14)
	for g.Len() < size {
		arg := func() int { return r.IntN(g.Len()) }
		n := api.Node{Op: api.OpNot, Width: 8, Args: []int{arg()}}
		if r.IntN(3) > 0 {
			n = api.Node{Op: api.OpAdd, Width: 8, Args: []int{arg(), arg()}}
		}
		if _, e := g.Add(n); e != api.OK {
			t.Fatal(e)
		}
	}
	for range r.IntN(size) {
		join(t, g, r.IntN(size), r.IntN(size))
	}
	g.Rebuild()
	return g
}

// varsModel returns the variables, as the definitions say.
func varsModel(g *egraph.Graph, roots []int) []api.Choice {
	inProblem := make([]bool, g.Len())
	for _, root := range roots {
		inProblem[g.Find(root)] = true
	}
	var vars []api.Choice
	for range g.Len() {
		vars = nil
		for class := range g.Len() {
			if !inProblem[class] {
				continue
			}
			for _, n := range g.Nodes(class) {
				if slices.ContainsFunc(n.Args, func(id int) bool { return g.Same(id, class) }) {
					continue
				}
				vars = append(vars, api.Choice{Class: class, Node: n})
				for _, id := range n.Args {
					inProblem[g.Find(id)] = true
				}
			}
		}
	}
	return vars
}

// feasible reports whether the nodes that are selected contain one of each root and of each Arg of such a node.
func feasible(g *egraph.Graph, roots []int, vars []api.Choice, x []bool) bool {
	has := func(id int) bool {
		for i, v := range vars {
			if x[i] && g.Same(v.Class, id) {
				return true
			}
		}
		return false
	}
	for _, root := range roots {
		if !has(root) {
			return false
		}
	}
	for i, v := range vars {
		if x[i] && slices.ContainsFunc(v.Node.Args, func(id int) bool { return !has(id) }) {
			return false
		}
	}
	return true
}

// randomChoices returns choices for most ids, mostly of variables, so that many of them fit together.
func randomChoices(r *rand.Rand, g *egraph.Graph, vars []api.Choice) []api.Choice {
	l := slices.Clone(vars)
	r.Shuffle(len(l), func(i, k int) { l[i], l[k] = l[k], l[i] })
	if r.IntN(3) == 0 {
		slices.SortStableFunc(l, func(a, b api.Choice) int { return len(a.Node.Args) - len(b.Node.Args) })
	}
	if r.IntN(3) == 0 {
		id := r.IntN(g.Len())
		nodes := g.Nodes(id)
		l = append([]api.Choice{{Class: id, Node: nodes[r.IntN(len(nodes))]}}, l...)
	}
	if r.IntN(8) == 0 {
		k := r.IntN(len(l))
		l = slices.Delete(l, k, k+1)
	}
	if r.IntN(8) == 0 {
		l = append([]api.Choice{choose(r.IntN(g.Len()), api.OpNeg, r.IntN(g.Len()))}, l...)
	}
	return l
}

// cycles returns all cycles of the classes that a selection reaches, beginning with their least classes.
func cycles(g *egraph.Graph, roots []int, l []api.Choice) [][]int {
	next := map[int][]int{}
	for _, c := range selection.Trim(g, roots, l) {
		for _, id := range c.Node.Args {
			next[c.Class] = append(next[c.Class], g.Find(id))
		}
	}
	var found [][]int
	var extend func(path []int)
	extend = func(path []int) {
		for _, class := range next[path[len(path)-1]] {
			switch {
			case class == path[0]:
				found = append(found, slices.Clone(path))
			case class > path[0] && !slices.Contains(path, class):
				extend(append(slices.Clone(path), class))
			}
		}
	}
	for class := range g.Len() {
		extend([]int{class})
	}
	return found
}

// violates reports whether an assignment violates a row.
func violates(r api.Row, x []bool) bool {
	sum := int64(0)
	for _, c := range r.Coefs {
		if x[c.Var] {
			sum += c.By
		}
	}
	return sum < r.Least
}

// TestModel checks P42.1 to P42.4 for random e-graphs and selections.
func TestModel(t *testing.T) {
	r := rand.New(rand.NewPCG(42, 1))
	c := cost.Uniform()
	c[api.OpAdd], c[api.OpVar] = 3, 2
	good, bad := 0, 0
	count := map[api.Errno]int{}
	cut := 0
	for range 1500 {
		g := randomGraph(t, r)
		var roots []int
		for range 1 + r.IntN(3) {
			roots = append(roots, r.IntN(g.Len()))
		}
		p, vars, e := encode.Problem(g, c, roots)
		if _, at := ilp.Check(p); e != api.OK || at != api.OK || !sameChoices(vars, varsModel(g, roots)) {
			t.Fatalf("%v: %v, %d in %v", roots, vars, e, g.Dump())
		}
		for range 20 {
			x := make([]bool, len(vars))
			for i := range x {
				x[i] = r.IntN(4) > 0
			}
			if ilp.Feasible(p, x) != feasible(g, roots, vars, x) {
				t.Fatalf("%v: %v in %v", roots, x, g.Dump())
			}
			if feasible(g, roots, vars, x) {
				good++
			} else {
				bad++
			}
			e, excluded := checkSelection(t, g, c, roots, randomChoices(r, g, vars))
			count[e]++
			if excluded {
				cut++
			}
		}
	}
	if good < 1000 || bad < 1000 || cut < 1000 {
		t.Error(good, bad, cut)
	}
	for _, e := range []api.Errno{api.OK, api.ErrNone, api.ErrForm, api.ErrCycle} {
		if count[e] < 100 {
			t.Error(count)
		}
	}
}

// checkSelection checks P42.4 for a selection. It returns the error of selection.Check, and whether only cuts exclude the selection.
func checkSelection(t *testing.T, g *egraph.Graph, c api.Costs, roots []int, l []api.Choice) (api.Errno, bool) {
	t.Helper()
	p, vars, _ := encode.Problem(g, c, roots)
	trimmed := selection.Trim(g, roots, l)
	x := encode.Write(g, vars, trimmed)
	solution, excluded := ilp.Feasible(p, x), false
	for _, cycle := range cycles(g, roots, l) {
		row, ok := encode.Cut(g, vars, trimmed, cycle)
		if ok && violates(row, x) {
			excluded = true
		}
		// A cut excludes this cycle alone: without one of its choices it is satisfied.
		for _, coef := range row.Coefs {
			y := slices.Clone(x)
			y[coef.Var] = false
			if violates(row, y) {
				t.Fatalf("%v excludes %v", row, y)
			}
		}
	}
	_, e := selection.Check(g, roots, l)
	if (e == api.OK) != (solution && !excluded) {
		t.Fatalf("%v, %v: %d, %v, %v in %v", roots, l, e, solution, excluded, g.Dump())
	}
	if e != api.OK {
		return e, solution
	}
	price, _ := selection.Cost(g, c, roots, l)
	if got := ilp.Cost(p, x); got != price {
		t.Fatalf("%v, %v: %d, not %d in %v", roots, l, got, price, g.Dump())
	}
	if got := encode.Read(vars, x); !sameChoices(got, trimmed) {
		t.Fatalf("%v: %v, not %v", x, got, trimmed)
	}
	return e, false
}

// TestSolve checks that solutions of problems with the cuts of their cycles are selections of the least cost.
func TestSolve(t *testing.T) {
	r := rand.New(rand.NewPCG(42, 2))
	cuts := 0
	for range 400 {
		g := randomGraph(t, r)
		var c api.Costs
		for k := range c {
			c[k] = 1 + r.Int64N(9)
		}
		roots := []int{r.IntN(g.Len()), r.IntN(g.Len())}
		p, vars, e := encode.Problem(g, c, roots)
		if e != api.OK {
			t.Fatal(e)
		}
		x, price, e := ilp.Solve(p)
		for e == api.OK {
			l := encode.Read(vars, x)
			row, ok := encode.Cut(g, vars, l, selection.Cycle(g, roots, l))
			if !ok {
				break
			}
			cuts++
			p.Rows = append(p.Rows, row)
			x, price, e = ilp.Solve(p)
		}
		got, code := selection.Cost(g, c, roots, encode.Read(vars, x))
		if e != api.OK || code != api.OK || got != price {
			t.Fatalf("%v: %d, %d, %d, %d in %v", roots, e, code, got, price, g.Dump())
		}
		for range 30 {
			if other, e := selection.Cost(g, c, roots, randomChoices(r, g, vars)); e == api.OK && other < price {
				t.Fatalf("%v: %d, and not %d in %v", roots, price, other, g.Dump())
			}
		}
	}
	if cuts < 20 {
		t.Error(cuts)
	}
}
