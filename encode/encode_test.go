package encode_test

import (
	"math"
	"slices"
	"strings"
	"testing"

	"saturate/api"
	"saturate/cost"
	"saturate/egraph"
	"saturate/encode"
	"saturate/hashcons"
	"saturate/ilp"
	"saturate/represent"
	"saturate/termtext"
)

// graph returns an e-graph with terms.
func graph(t *testing.T, l ...string) *egraph.Graph {
	t.Helper()
	g := egraph.New()
	for _, s := range l {
		u, e := termtext.Parse(s)
		if e != api.OK {
			t.Fatalf("%s: %d", s, e)
		}
		if _, e := represent.AddTerm(g, u); e != api.OK {
			t.Fatalf("%s: %d", s, e)
		}
	}
	return g
}

// join joins ids.
func join(t *testing.T, g *egraph.Graph, a, b int) {
	t.Helper()
	if _, e := g.Union(a, b, api.WhyGiven); e != api.OK {
		t.Fatal(a, b, e)
	}
}

// choose returns the choice of the node with an operator that has given Args.
func choose(class int, op api.Op, args ...int) api.Choice {
	return api.Choice{Class: class, Node: api.Node{Op: op, Width: 8, Args: args}}
}

// leaf returns the choice of a var.
func leaf(class int, name string) api.Choice {
	return api.Choice{Class: class, Node: api.Node{Op: api.OpVar, Width: 8, Name: name}}
}

// number returns the choice of a const.
func number(class int, val uint64) api.Choice {
	return api.Choice{Class: class, Node: api.Node{Op: api.OpConst, Width: 8, Val: val}}
}

// row returns a row with coefficients for variables.
func row(least int64, l ...api.Coef) api.Row {
	return api.Row{Coefs: l, Least: least}
}

// sameChoices reports whether two selections are equal in all parts.
func sameChoices(a, b []api.Choice) bool {
	return slices.EqualFunc(a, b, func(c, d api.Choice) bool { return c.Class == d.Class && hashcons.Same(c.Node, d.Node) })
}

func sameRow(a, b api.Row) bool {
	return a.Least == b.Least && slices.Equal(a.Coefs, b.Coefs)
}

// sample returns an e-graph with x 0, 1 1, (add x 1) 2, (sub (add x 1) 1) 3, (not x) 4, (neg (not x)) 5, (mul x x) 6, in which 0 and 3 are joined, and 2 and 5.
func sample(t *testing.T) *egraph.Graph {
	t.Helper()
	g := graph(t, "(sub (add x:8 1:8) 1:8)", "(neg (not x:8))", "(mul x:8 x:8)")
	join(t, g, 3, 0)
	join(t, g, 5, 2)
	g.Rebuild()
	if g.Len() != 7 || g.Count() != 5 {
		t.Fatal(g.Dump())
	}
	return g
}

// plus returns the coefficient 1 of a variable, and minus -1.
func plus(v int) api.Coef  { return api.Coef{Var: v, By: 1} }
func minus(v int) api.Coef { return api.Coef{Var: v, By: -1} }

// TestProblem checks P42.1 for a graph.
func TestProblem(t *testing.T) {
	g := sample(t)
	c := cost.Uniform()
	c[api.OpNeg], c[api.OpSub], c[api.OpMul], c[api.OpVar] = 7, 5, 2*api.MaxCost, -3
	all := []api.Choice{leaf(0, "x"), choose(0, api.OpSub, 2, 1), number(1, 1), choose(2, api.OpNeg, 4), choose(2, api.OpAdd, 0, 1), choose(4, api.OpNot, 0), choose(6, api.OpMul, 0, 0)}
	costs := []int64{1, 5, 1, 7, 1, 1, api.MaxCost}
	needs := []api.Row{row(0, minus(1), plus(2)), row(0, minus(1), plus(3), plus(4)), row(0, minus(3), plus(5)), row(0, plus(0), plus(1), minus(4)), row(0, plus(2), minus(4)), row(0, plus(0), plus(1), minus(5)), row(0, plus(0), plus(1), minus(6))}
	root0, root1, root2, root6 := row(1, plus(0), plus(1)), row(1, plus(2)), row(1, plus(3), plus(4)), row(1, plus(6))
	for _, x := range []struct {
		roots []int
		count int // of variables
		rows  []api.Row
	}{
		{[]int{0}, 6, append([]api.Row{root0}, needs[:6]...)},
		{[]int{3}, 6, append([]api.Row{root0}, needs[:6]...)},
		{[]int{5, 0, 2, 3, 5}, 6, append([]api.Row{root0, root2}, needs[:6]...)},
		{[]int{6}, 7, append([]api.Row{root6}, needs...)},
		{[]int{6, 2, 1}, 7, append([]api.Row{root1, root2, root6}, needs...)},
		{nil, 0, nil},
	} {
		p, vars, e := encode.Problem(g, c, x.roots)
		if e != api.OK || !sameChoices(vars, all[:x.count]) || !slices.Equal(p.Costs, costs[:x.count]) || !slices.EqualFunc(p.Rows, x.rows, sameRow) {
			t.Errorf("%v: %v, %v, %d", x.roots, p, vars, e)
		}
		if vars, e := encode.Vars(g, x.roots); e != api.OK || !sameChoices(vars, all[:x.count]) {
			t.Errorf("%v: %v, %d", x.roots, vars, e)
		}
		if at, e := ilp.Check(p); e != api.OK {
			t.Errorf("%v: %d, %d", x.roots, at, e)
		}
	}
	// A single class: its index is not that of its variable.
	p, vars, e := encode.Problem(g, c, []int{1})
	if e != api.OK || !sameChoices(vars, all[2:3]) || !slices.Equal(p.Costs, []int64{1}) || len(p.Rows) != 1 || !sameRow(p.Rows[0], row(1, plus(0))) {
		t.Error(p, vars, e)
	}
}

// TestCandidates checks which nodes are candidates, and that only those lead to further classes (P42.1).
func TestCandidates(t *testing.T) {
	// x 0, (not x) 1, y 2, (add (not x) y) 3, (neg y) 4; 0 and 1 are joined, and 0 and 3
	g := graph(t, "(add (not x:8) y:8)", "(neg y:8)")
	join(t, g, 0, 1)
	g.Rebuild()
	if l, e := encode.Vars(g, []int{1}); e != api.OK || !sameChoices(l, []api.Choice{leaf(0, "x")}) {
		t.Error(l, e)
	}
	join(t, g, 3, 0)
	g.Rebuild()
	// The add leads to y, but also back.
	if l, e := encode.Vars(g, []int{3}); e != api.OK || !sameChoices(l, []api.Choice{leaf(0, "x")}) {
		t.Error(l, e)
	}
	join(t, g, 4, 0)
	g.Rebuild()
	if l, e := encode.Vars(g, []int{3}); e != api.OK || !sameChoices(l, []api.Choice{leaf(0, "x"), choose(0, api.OpNeg, 2), leaf(2, "y")}) {
		t.Error(l, e)
	}
	// A node that leads back over another class is one; equal canonical nodes are one.
	g = graph(t, "(not (neg x:8))", "(neg y:8)")
	join(t, g, 0, 2)
	join(t, g, 0, 3)
	g.Rebuild()
	if l, e := encode.Vars(g, []int{3}); e != api.OK || !sameChoices(l, []api.Choice{leaf(0, "x"), leaf(0, "y"), choose(0, api.OpNot, 1), choose(1, api.OpNeg, 0)}) {
		t.Error(l, e)
	}
}

// TestThreeArgs checks the rows of nodes with several Args.
func TestThreeArgs(t *testing.T) {
	// c 0, y 1, x 2, (ite c y x) 3, (ite c x x) 4
	g := graph(t, "(ite c:1 y:1 x:1)", "(ite c:1 x:1 x:1)", "(ite c:1 c:1 c:1)")
	p, vars, e := encode.Problem(g, cost.Uniform(), []int{5, 4, 3})
	want := []api.Row{row(1, plus(3)), row(1, plus(4)), row(1, plus(5)), row(0, plus(0), minus(3)), row(0, plus(1), minus(3)), row(0, plus(2), minus(3)), row(0, plus(0), minus(4)), row(0, plus(2), minus(4)), row(0, plus(0), minus(5))}
	if e != api.OK || len(vars) != 6 || !slices.EqualFunc(p.Rows, want, sameRow) {
		t.Error(p, vars, e)
	}
}

// TestErrors checks the errors of P42.1 and their order.
func TestErrors(t *testing.T) {
	dirty := sample(t)
	join(t, dirty, 1, 4)
	made := sample(t)
	used := *made
	for i, x := range []struct {
		g     *egraph.Graph
		roots []int
		want  api.Errno
	}{
		{nil, nil, api.ErrNil}, {nil, []int{-1}, api.ErrNil}, {&egraph.Graph{}, []int{0}, api.ErrNil}, {&used, []int{0}, api.ErrNil},
		{dirty, []int{0}, api.ErrDirty}, {dirty, []int{7}, api.ErrDirty}, {dirty, nil, api.ErrDirty},
		{made, []int{7}, api.ErrRange}, {made, []int{0, -1}, api.ErrRange}, {made, []int{math.MinInt, 0}, api.ErrRange}, {made, []int{math.MaxInt}, api.ErrRange},
		{egraph.New(), []int{0}, api.ErrRange}, {egraph.New(), nil, api.OK},
	} {
		l, e := encode.Vars(x.g, x.roots)
		if e != x.want || len(l) != 0 {
			t.Errorf("case %d: %v, %d", i, l, e)
		}
		p, l, e := encode.Problem(x.g, cost.Uniform(), x.roots)
		if e != x.want || len(l) != 0 || len(p.Costs) != 0 || len(p.Rows) != 0 {
			t.Errorf("case %d: %v, %v, %d", i, p, l, e)
		}
	}
	if g := sample(t); !dirty.Dirty() || dirty.Len() != g.Len() {
		t.Error("the graph changed")
	}
}

// TestLimit checks the limit of variables of P42.1.
func TestLimit(t *testing.T) {
	chain := graph(t, strings.Repeat("(not ", 60)+"x:8"+strings.Repeat(")", 60))
	for id := 60; id < 64; id++ {
		if _, e := chain.Add(api.Node{Op: api.OpNot, Width: 8, Args: []int{id}}); e != api.OK {
			t.Fatal(e)
		}
	}
	broad := egraph.New()
	for val := range uint64(65) {
		id, e := broad.Add(api.Node{Op: api.OpConst, Width: 8, Val: val})
		if e != api.OK {
			t.Fatal(e)
		}
		if val > 0 && val < 64 {
			join(t, broad, 0, id)
		}
	}
	broad.Rebuild()
	for i, x := range []struct {
		g     *egraph.Graph
		roots []int
		count int
		rows  int
		want  api.Errno
	}{
		{chain, []int{63}, 64, 64, api.OK}, {chain, []int{64}, 0, 0, api.ErrLong}, {chain, []int{0, 64}, 0, 0, api.ErrLong}, {chain, []int{64, 65}, 0, 0, api.ErrRange}, {chain, []int{5, 5, 5}, 6, 6, api.OK},
		{broad, []int{0}, 64, 1, api.OK}, {broad, []int{0, 63}, 64, 1, api.OK}, {broad, []int{0, 64}, 0, 0, api.ErrLong}, {broad, []int{64}, 1, 1, api.OK},
	} {
		l, e := encode.Vars(x.g, x.roots)
		if e != x.want || len(l) != x.count {
			t.Errorf("case %d: %d, %d", i, len(l), e)
		}
		p, l, e := encode.Problem(x.g, cost.Uniform(), x.roots)
		if e != x.want || len(l) != x.count || len(p.Costs) != x.count || len(p.Rows) != x.rows {
			t.Errorf("case %d: %d, %d, %d, %d", i, len(l), len(p.Costs), len(p.Rows), e)
		}
	}
	// All 64 classes can be roots.
	var roots []int
	for id := range 64 {
		roots = append(roots, 63-id)
	}
	p, _, e := encode.Problem(chain, cost.Uniform(), roots)
	if e != api.OK || len(p.Rows) != 64+63 {
		t.Error(len(p.Rows), e)
	}
	// Only the classes of the problem count, in a large graph, too.
	id := 64
	for range 20000 {
		id, _ = chain.Add(api.Node{Op: api.OpNot, Width: 8, Args: []int{id}})
	}
	if l, e := encode.Vars(chain, []int{id}); e != api.ErrLong || len(l) != 0 {
		t.Error(len(l), e)
	}
	if l, e := encode.Vars(chain, []int{3}); e != api.OK || len(l) != 4 {
		t.Error(len(l), e)
	}
}
