package dagbest_test

import (
	"math"
	"slices"
	"testing"

	"saturate/api"
	"saturate/cost"
	"saturate/dagbest"
	"saturate/egraph"
	"saturate/encode"
	"saturate/hashcons"
	"saturate/represent"
	"saturate/selection"
	"saturate/termtext"
	"saturate/treebest"
)

// add adds a term and returns its id.
func add(t *testing.T, g *egraph.Graph, s string) int {
	t.Helper()
	x, e := termtext.Parse(s)
	if e != api.OK {
		t.Fatal(s, e)
	}
	id, e := represent.AddTerm(g, x)
	if e != api.OK {
		t.Fatal(s, e)
	}
	return id
}

// graph returns a rebuilt e-graph in which the terms of each list are equal, and the ids of the first ones.
func graph(t *testing.T, classes ...[]string) (*egraph.Graph, []int) {
	t.Helper()
	g := egraph.New()
	var ids []int
	for _, class := range classes {
		ids = append(ids, add(t, g, class[0]))
		for _, s := range class[1:] {
			join(t, g, ids[len(ids)-1], add(t, g, s))
		}
	}
	g.Rebuild()
	return g, ids
}

// join joins two ids.
func join(t *testing.T, g *egraph.Graph, a, b int) {
	t.Helper()
	if _, e := g.Union(a, b, api.WhyGiven); e != api.OK {
		t.Fatal(a, b, e)
	}
}

// sameChoices reports whether two lists of choices are equal.
func sameChoices(a, b []api.Choice) bool {
	return slices.EqualFunc(a, b, func(a, b api.Choice) bool { return a.Class == b.Class && hashcons.Same(a.Node, b.Node) })
}

// sameRows reports whether two lists of rows are equal.
func sameRows(a, b []api.Row) bool {
	return slices.EqualFunc(a, b, func(a, b api.Row) bool { return a.Least == b.Least && slices.Equal(a.Coefs, b.Coefs) })
}

// texts returns the texts of terms.
func texts(l []api.Term) []string {
	var s []string
	for _, x := range l {
		s = append(s, termtext.Print(x))
	}
	return s
}

// priced returns uniform costs with some exceptions.
func priced(costs map[api.Op]int64) api.Costs {
	c := cost.Uniform()
	for op, price := range costs {
		c[op] = price
	}
	return c
}

// TestRun checks P43.1 and P43.2 for examples.
func TestRun(t *testing.T) {
	shared := []([]string){{"(udiv x:8 z:8)", "(add (mul x:8 y:8) x:8)"}, {"(udiv y:8 z:8)", "(add (mul x:8 y:8) y:8)"}}
	division := priced(map[api.Op]int64{api.OpUdiv: 3, api.OpMul: 3})
	for i, x := range []struct {
		classes [][]string
		costs   api.Costs
		roots   []int // indices of classes
		want    []string
		least   int64
		greedy  int64
	}{
		{[][]string{{"x:8"}}, cost.Uniform(), []int{0}, []string{"x:8"}, 1, 1}, {[][]string{{"x:8"}}, cost.Uniform(), nil, nil, 0, 0},
		{[][]string{{"(add (mul x:8 y:8) (mul x:8 y:8))"}}, cost.Uniform(), []int{0}, []string{"(add (mul x:8 y:8) (mul x:8 y:8))"}, 4, 4},
		// Alone, a division is cheaper, but the sums share a product.
		{shared, division, []int{0}, []string{"(udiv x:8 z:8)"}, 5, 5}, {shared, division, []int{1}, []string{"(udiv y:8 z:8)"}, 5, 5},
		{shared, division, []int{0, 1}, []string{"(add (mul x:8 y:8) x:8)", "(add (mul x:8 y:8) y:8)"}, 7, 9}, {shared, division, []int{1, 0, 1}, []string{"(add (mul x:8 y:8) y:8)", "(add (mul x:8 y:8) x:8)", "(add (mul x:8 y:8) y:8)"}, 7, 9},
		// The least tree need not be the least selection of a single root.
		{[][]string{{"(add (not (not x:8)) (neg (neg (not (not x:8)))))", "(add (sub x:8 y:8) z:8)"}}, priced(map[api.Op]int64{api.OpVar: 3, api.OpSub: 2}), []int{0}, []string{"(add (not (not x:8)) (neg (neg (not (not x:8)))))"}, 8, 12},
		// A node that leads back to its class is not selected, however cheap it is, nor two nodes that lead to each other.
		{[][]string{{"x:8", "(add x:8 x:8)", "(not x:8)"}}, priced(map[api.Op]int64{api.OpVar: 50}), []int{0}, []string{"x:8"}, 50, 50},
		{[][]string{{"(mul x:8 y:8)", "(not (neg (mul x:8 y:8)))", "(neg (not (mul x:8 y:8)))"}}, priced(map[api.Op]int64{api.OpMul: 50}), []int{0}, []string{"(mul x:8 y:8)"}, 52, 52},
		// Costs are clamped to the range from 1 to MaxCost.
		{[][]string{{"x:8", "(neg y:8)"}}, api.Costs{}, []int{0}, []string{"x:8"}, 1, 1}, {[][]string{{"x:8", "(neg y:8)"}}, priced(map[api.Op]int64{api.OpVar: math.MinInt64, api.OpNeg: -7}), []int{0}, []string{"x:8"}, 1, 1}, {[][]string{{"(neg x:8)"}, {"(not x:8)"}}, priced(map[api.Op]int64{api.OpVar: math.MaxInt64, api.OpNeg: api.MaxCost + 1}), []int{0, 1}, []string{"(neg x:8)", "(not x:8)"}, 2*api.MaxCost + 1, 2*api.MaxCost + 1},
	} {
		g, ids := graph(t, x.classes...)
		var roots []int
		for _, k := range x.roots {
			roots = append(roots, ids[k])
		}
		l, total, e := dagbest.Terms(g, x.costs, roots)
		if e != api.OK || total != x.least || !slices.Equal(texts(l), x.want) {
			t.Errorf("case %d: %q, %d, %d", i, texts(l), total, e)
		}
		if greedy, least, e := dagbest.Compare(g, x.costs, roots); greedy != x.greedy || least != x.least || e != api.OK {
			t.Errorf("case %d: %d, %d, %d", i, greedy, least, e)
		}
		checkAll(t, g, x.costs, roots)
	}
}

// checkAll checks P43.1 to P43.4 where there is no error, except that the cost of Run is least. It returns the rows of Cuts.
func checkAll(t *testing.T, g *egraph.Graph, c api.Costs, roots []int) []api.Row {
	t.Helper()
	before := g.Dump()
	chosen, total, e := dagbest.Run(g, c, roots)
	if _, code := selection.Check(g, roots, chosen); e != api.OK || code != api.OK {
		t.Fatalf("%v: %v, %d, %d in %v", roots, chosen, e, code, before)
	}
	if price, _ := selection.Cost(g, c, roots, chosen); price != total || !sameChoices(chosen, selection.Trim(g, roots, chosen)) {
		t.Fatalf("%v: %v, %d, %d in %v", roots, chosen, price, total, before)
	}
	last, cuts := solve(t, g, c, roots)
	if !sameChoices(chosen, last) {
		t.Fatalf("%v: %v, not %v in %v", roots, chosen, last, before)
	}
	if rows, e := dagbest.Cuts(g, c, roots); e != api.OK || !sameRows(rows, cuts) {
		t.Fatalf("%v: %v, %d, not %v in %v", roots, rows, e, cuts, before)
	}
	terms, price, e := dagbest.Terms(g, c, roots)
	if e != api.OK || price != total || len(terms) != len(roots) || cost.Dag(c, terms...) != total {
		t.Fatalf("%v: %q, %d, %d in %v", roots, texts(terms), price, e, before)
	}
	for k, x := range terms {
		if !represent.Has(g, roots[k], x) {
			t.Fatalf("%v: %q in %v", roots, texts(terms), before)
		}
	}
	best, _ := treebest.Run(g, c)
	want := best.Choices(roots...)
	chosen, greedy, e := dagbest.Greedy(g, c, roots)
	if price, code := selection.Cost(g, c, roots, want); e != api.OK || code != api.OK || greedy != price || greedy < total || !sameChoices(chosen, want) {
		t.Fatalf("%v: %v, %d, %d in %v", roots, chosen, greedy, e, before)
	}
	if a, b, e := dagbest.Compare(g, c, roots); a != greedy || b != total || e != api.OK {
		t.Fatalf("%v: %d, %d, %d in %v", roots, a, b, e, before)
	}
	return cuts
}

// checkErrors checks that all functions return an error, and Greedy maybe another one.
func checkErrors(t *testing.T, what string, g *egraph.Graph, roots []int, want, greedy api.Errno) {
	t.Helper()
	c := cost.Uniform()
	if l, total, e := dagbest.Run(g, c, roots); e != want || total != 0 || len(l) != 0 {
		t.Errorf("%s: Run: %v, %d, %d", what, l, total, e)
	}
	if l, total, e := dagbest.Terms(g, c, roots); e != want || total != 0 || len(l) != 0 {
		t.Errorf("%s: Terms: %v, %d, %d", what, l, total, e)
	}
	if l, e := dagbest.Cuts(g, c, roots); e != want || len(l) != 0 {
		t.Errorf("%s: Cuts: %v, %d", what, l, e)
	}
	if a, b, e := dagbest.Compare(g, c, roots); e != want || a != 0 || b != 0 {
		t.Errorf("%s: Compare: %d, %d, %d", what, a, b, e)
	}
	if l, total, e := dagbest.Greedy(g, c, roots); e != greedy || e != api.OK && (total != 0 || len(l) != 0) {
		t.Errorf("%s: Greedy: %v, %d, %d", what, l, total, e)
	}
}

// TestErrors checks the errors of P43.1 to P43.3 and their order.
func TestErrors(t *testing.T) {
	var zero egraph.Graph
	g, ids := graph(t, []string{"(add x:8 y:8)"})
	used := *g
	for _, roots := range [][]int{nil, {0}, {-1}} {
		checkErrors(t, "nil", nil, roots, api.ErrNil, api.ErrNil)
		checkErrors(t, "zero", &zero, roots, api.ErrNil, api.ErrNil)
		checkErrors(t, "copied", &used, roots, api.ErrNil, api.ErrNil)
	}
	for _, roots := range [][]int{{3}, {-1}, {ids[0], 3}, {math.MaxInt, 0}, {0, math.MinInt}} {
		checkErrors(t, "no id", g, roots, api.ErrRange, api.ErrRange)
	}
	join(t, g, 0, 1)
	for _, roots := range [][]int{nil, {0}, {3}} {
		checkErrors(t, "dirty", g, roots, api.ErrDirty, api.ErrDirty)
	}
}

// TestVariables checks that 64 variables are enough, and 65 too many, but not for Greedy (P43.1, P43.2).
func TestVariables(t *testing.T) {
	g := egraph.New()
	root := add(t, g, "x:8")
	for k := 1; k < api.MaxVars; k++ {
		root, _ = g.Add(api.Node{Op: api.OpNot, Width: 8, Args: []int{root}})
	}
	roots := []int{root}
	l, total, e := dagbest.Run(g, cost.Uniform(), roots)
	if e != api.OK || total != api.MaxVars || len(l) != api.MaxVars {
		t.Error(l, total, e)
	}
	if terms, _, e := dagbest.Terms(g, cost.Uniform(), roots); e != api.OK || len(terms) != 1 {
		t.Error(terms, e)
	}
	last, _ := g.Add(api.Node{Op: api.OpNeg, Width: 8, Args: []int{root}})
	for _, roots := range [][]int{{last}, {root, last}, {last, 0}} {
		checkErrors(t, "65 variables", g, roots, api.ErrLong, api.OK)
	}
	checkErrors(t, "65 variables", g, []int{last, last + 1}, api.ErrRange, api.ErrRange)
	if l, total, e := dagbest.Greedy(g, cost.Uniform(), []int{last, 0}); e != api.OK || total != api.MaxVars+1 || len(l) != api.MaxVars+1 || l[api.MaxVars].Class != last {
		t.Error(l, total, e)
	}
	// What is not needed for the roots does not count.
	if _, _, e := dagbest.Run(g, cost.Uniform(), []int{root - 1, 0}); e != api.OK {
		t.Error(e)
	}
}

// TestLarge checks that terms can be too large although their selection is small (P43.1).
func TestLarge(t *testing.T) {
	g := egraph.New()
	ids := []int{add(t, g, "x:8")}
	for k := range 30 {
		id, _ := g.Add(api.Node{Op: api.OpAdd, Width: 8, Args: []int{ids[k], ids[k]}})
		ids = append(ids, id)
	}
	if l, total, e := dagbest.Run(g, cost.Uniform(), ids); e != api.OK || total != 31 || len(l) != 31 {
		t.Error(l, total, e)
	}
	if l, total, e := dagbest.Terms(g, cost.Uniform(), ids[:12]); e != api.OK || total != 12 || len(l) != 12 {
		t.Error(l, total, e)
	}
	for _, roots := range [][]int{{ids[12]}, {0, ids[12]}, {ids[30], 0}, ids} {
		if l, total, e := dagbest.Terms(g, cost.Uniform(), roots); e != api.ErrLong || total != 0 || len(l) != 0 {
			t.Error(roots, l, total, e)
		}
	}
	if greedy, least, e := dagbest.Compare(g, cost.Uniform(), ids); greedy != 31 || least != 31 || e != api.OK {
		t.Error(greedy, least, e)
	}
}

// TestMemory checks that results share no memory, and that arguments are not changed.
func TestMemory(t *testing.T) {
	g, ids := graph(t, []string{"(mul x:8 y:8)", "(not (neg (mul x:8 y:8)))"}, []string{"(add (mul x:8 y:8) x:8)"})
	c := priced(map[api.Op]int64{api.OpMul: 50})
	roots := []int{ids[1], ids[0], ids[1]}
	want, _, _ := dagbest.Run(g, c, roots)
	text := texts(first(dagbest.Terms(g, c, roots)))
	for _, l := range [][]api.Choice{first(dagbest.Run(g, c, roots)), first(dagbest.Greedy(g, c, roots))} {
		for k := range l {
			for i := range l[k].Node.Args {
				l[k].Node.Args[i] = 77
			}
		}
	}
	terms := first(dagbest.Terms(g, c, roots))
	terms[0].Args[0].Name = "spoilt"
	terms[0].Args[0].Args[0].Name = "spoilt"
	if texts(terms[2:])[0] != text[2] {
		t.Error("two terms share memory")
	}
	rows, _ := dagbest.Cuts(g, c, roots)
	if len(rows) == 0 {
		t.Fatal("no cycle was excluded")
	}
	rows[0].Coefs[0].Var = 77
	if l, _, _ := dagbest.Run(g, c, roots); !sameChoices(l, want) || !slices.Equal(roots, []int{ids[1], ids[0], ids[1]}) || !slices.Equal(texts(first(dagbest.Terms(g, c, roots))), text) {
		t.Error(l, roots)
	}
	if vars, _ := encode.Vars(g, roots); len(vars) != 6 {
		t.Error(vars)
	}
}

// first returns the first one of three results.
func first[T, U, V any](x T, _ U, _ V) T {
	return x
}
