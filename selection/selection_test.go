package selection_test

import (
	"math"
	"slices"
	"strconv"
	"testing"

	"saturate/api"
	"saturate/cost"
	"saturate/egraph"
	"saturate/hashcons"
	"saturate/represent"
	"saturate/selection"
	"saturate/term"
	"saturate/termtext"
)

// read reads a term.
func read(t *testing.T, s string) api.Term {
	t.Helper()
	x, e := termtext.Parse(s)
	if e != api.OK {
		t.Fatalf("%s: %d", s, e)
	}
	return x
}

// graph returns an e-graph with terms.
func graph(t *testing.T, l ...string) *egraph.Graph {
	t.Helper()
	g := egraph.New()
	for _, s := range l {
		if _, e := represent.AddTerm(g, read(t, s)); e != api.OK {
			t.Fatalf("%s: %d", s, e)
		}
	}
	return g
}

// join joins ids.
func join(t *testing.T, g *egraph.Graph, a, b int) {
	t.Helper()
	if _, e := g.Union(a, b, api.WhyGiven); e != api.OK {
		t.Fatal(a, b, e)
	}
}

// choose returns the choice of the node with an operator that has given Args.
func choose(class int, op api.Op, args ...int) api.Choice {
	return api.Choice{Class: class, Node: api.Node{Op: op, Width: 8, Args: args}}
}

// leaf returns the choice of a var.
func leaf(class int, name string) api.Choice {
	return api.Choice{Class: class, Node: api.Node{Op: api.OpVar, Width: 8, Name: name}}
}

// one returns the choice of the const 1.
func one(class int) api.Choice {
	return api.Choice{Class: class, Node: api.Node{Op: api.OpConst, Width: 8, Val: 1}}
}

// sameChoices reports whether two selections are equal in all parts.
func sameChoices(a, b []api.Choice) bool {
	return slices.EqualFunc(a, b, func(c, d api.Choice) bool { return c.Class == d.Class && hashcons.Same(c.Node, d.Node) })
}

// sample returns an e-graph with x 0, 1 1, (add x 1) 2, (sub (add x 1) 1) 3, (not x) 4, (neg (not x)) 5, in which 0 and 3 are joined, and 2 and 5.
func sample(t *testing.T) *egraph.Graph {
	t.Helper()
	g := graph(t, "(sub (add x:8 1:8) 1:8)", "(neg (not x:8))")
	join(t, g, 3, 0)
	join(t, g, 5, 2)
	g.Rebuild()
	if g.Len() != 6 || g.Count() != 4 {
		t.Fatal(g.Dump())
	}
	return g
}

// The choices of the sample.
var (
	x        = leaf(0, "x")
	constant = one(1)
	sum      = choose(2, api.OpAdd, 0, 1)
	diff     = choose(0, api.OpSub, 2, 1)
	inverse  = choose(4, api.OpNot, 0)
	negation = choose(2, api.OpNeg, 4)
)

// unusable returns e-graphs that are nil or that New did not make.
func unusable(t *testing.T) []*egraph.Graph {
	var zero egraph.Graph
	used := *graph(t, "x:8")
	return []*egraph.Graph{nil, &zero, &used}
}

// TestCheck checks P40.1.
func TestCheck(t *testing.T) {
	g := sample(t)
	for i, c := range []struct {
		roots []int
		l     []api.Choice
		at    int
		want  api.Errno
	}{
		{nil, nil, 0, api.OK}, {nil, []api.Choice{diff, sum}, 0, api.OK}, {[]int{0}, []api.Choice{x}, 0, api.OK}, {[]int{3}, []api.Choice{x}, 0, api.OK}, {[]int{2, 4}, []api.Choice{x, constant, sum, inverse}, 0, api.OK}, {[]int{5, 5, 2}, []api.Choice{x, inverse, negation}, 0, api.OK},
		// the roots
		{[]int{6}, []api.Choice{x}, 0, api.ErrRange}, {[]int{-1}, nil, 0, api.ErrRange}, {[]int{0, 1, 6, -1}, nil, 2, api.ErrRange}, {[]int{2, math.MinInt}, []api.Choice{diff, sum}, 1, api.ErrRange}, {[]int{0, math.MaxInt}, []api.Choice{x}, 1, api.ErrRange},
		// without a choice
		{[]int{0}, nil, 0, api.ErrNone}, {[]int{5}, nil, 2, api.ErrNone}, {[]int{2, 0}, []api.Choice{sum}, 0, api.ErrNone}, {[]int{2}, []api.Choice{sum, x}, 1, api.ErrNone}, {[]int{2}, []api.Choice{x, negation, constant}, 4, api.ErrNone}, {[]int{1, 4}, []api.Choice{constant, inverse}, 0, api.ErrNone}, {[]int{0}, []api.Choice{leaf(6, "x"), leaf(-1, "x")}, 0, api.ErrNone},
		// nodes of other classes, and forms that are not canonical
		{[]int{0}, []api.Choice{leaf(0, "y")}, 0, api.ErrForm}, {[]int{0}, []api.Choice{{}}, 0, api.ErrForm}, {[]int{1}, []api.Choice{{Class: 1, Node: api.Node{Op: api.OpConst, Width: 8, Val: 2}}}, 1, api.ErrForm}, {[]int{1}, []api.Choice{{Class: 1, Node: api.Node{Op: api.OpConst, Width: 4, Val: 1}}}, 1, api.ErrForm}, {[]int{2}, []api.Choice{choose(2, api.OpAdd, 3, 1), x, constant}, 2, api.ErrForm}, {[]int{2}, []api.Choice{choose(2, api.OpAdd, 1, 0), x, constant}, 2, api.ErrForm}, {[]int{2}, []api.Choice{choose(2, api.OpAdd, 0), x}, 2, api.ErrForm}, {[]int{2}, []api.Choice{choose(2, api.OpAdd, 0, 1, 1), x, constant}, 2, api.ErrForm}, {[]int{2}, []api.Choice{choose(2, api.OpNot, 0), x}, 2, api.ErrForm}, {[]int{2}, []api.Choice{choose(2, api.OpAdd, 0, 1, 99), x, constant}, 2, api.ErrForm}, {[]int{4}, []api.Choice{{Class: 4, Node: api.Node{Op: api.OpNot, Width: 8, Name: "n", Args: []int{0}}}, x}, 4, api.ErrForm},
		// cycles
		{[]int{0}, []api.Choice{diff, sum, constant}, 0, api.ErrCycle}, {[]int{2}, []api.Choice{diff, sum, constant}, 0, api.ErrCycle}, {[]int{1, 2}, []api.Choice{diff, negation, inverse, constant}, 0, api.ErrCycle}, {[]int{1}, []api.Choice{diff, sum, constant}, 0, api.OK}, {[]int{4}, []api.Choice{inverse, diff, sum, constant}, 0, api.ErrCycle},
		// The order of errors: each one is examined for all classes.
		{[]int{2, 4}, []api.Choice{{Class: 0}, sum, constant}, 4, api.ErrNone}, {[]int{2, 4}, []api.Choice{{Class: 0}, sum, constant, inverse}, 0, api.ErrForm}, {[]int{0, 4}, []api.Choice{diff, sum, constant, {Class: 4}}, 4, api.ErrForm}, {[]int{0, 4}, []api.Choice{diff, sum, constant}, 4, api.ErrNone}, {[]int{0}, []api.Choice{diff, sum}, 1, api.ErrNone}, {[]int{4, 1}, nil, 1, api.ErrNone}, {[]int{4, 1}, []api.Choice{{Class: 4}, {Class: 1}}, 1, api.ErrForm},
		// The first choice of a class counts, whatever id of it it has.
		{[]int{2}, []api.Choice{x, diff, sum, constant}, 0, api.OK}, {[]int{2}, []api.Choice{diff, x, sum, constant}, 0, api.ErrCycle}, {[]int{2}, []api.Choice{leaf(3, "x"), diff, sum, constant}, 0, api.OK}, {[]int{2}, []api.Choice{choose(3, api.OpSub, 2, 1), x, sum, constant}, 0, api.ErrCycle}, {[]int{2}, []api.Choice{{Class: 5}, x, sum, constant}, 2, api.ErrForm}, {[]int{0}, []api.Choice{{Class: 99}, {Class: -1}, x, {Class: 0}}, 0, api.OK},
	} {
		if at, e := selection.Check(g, c.roots, c.l); at != c.at || e != c.want {
			t.Errorf("case %d: %d, %d, not %d, %d", i, at, e, c.at, c.want)
		}
	}
}

// TestErrors checks the errors of P40.1, P40.3 and P40.4 that concern the e-graph, and P40.2 for a nil one.
func TestErrors(t *testing.T) {
	dirty := sample(t)
	join(t, dirty, 0, 4)
	check := func(g *egraph.Graph, want api.Errno) {
		t.Helper()
		for _, roots := range [][]int{nil, {0}, {99}, {0, -1}} {
			if at, e := selection.Check(g, roots, []api.Choice{x}); at != 0 || e != want {
				t.Error(roots, at, e)
			}
			if n, e := selection.Cost(g, cost.Uniform(), roots, []api.Choice{x}); n != 0 || e != want {
				t.Error(roots, n, e)
			}
		}
		for _, root := range []int{0, 99, -1} {
			if u, e := selection.Term(g, []api.Choice{x}, root); !term.Same(u, api.Term{}) || e != want {
				t.Error(root, u, e)
			}
		}
		if l, ok := selection.Of(g, read(t, "x:8")); ok || len(l) > 0 {
			t.Error(l, ok)
		}
	}
	check(dirty, api.ErrDirty)
	for _, g := range unusable(t) {
		check(g, api.ErrNil)
		l := []api.Choice{x, diff, {Class: -1, Node: api.Node{Args: []int{-1}}}}
		if len(selection.Reached(g, []int{0, -1}, l))+len(selection.Cycle(g, []int{0, -1}, l))+len(selection.Trim(g, []int{0, -1}, l)) > 0 {
			t.Error(g)
		}
	}
}

// TestReached checks P40.2 for Reached and Trim, also for what is no selection.
func TestReached(t *testing.T) {
	g := sample(t)
	wild := choose(4, api.OpAdd, 99, 5, -1, 1, 3, 1)
	wild.Node.Name = "wild"
	for i, c := range []struct {
		roots   []int
		l       []api.Choice
		reached []int
		trimmed []api.Choice
	}{
		{nil, []api.Choice{x}, nil, nil}, {[]int{-1, 6, 99}, []api.Choice{x, leaf(-1, "x"), leaf(99, "x")}, nil, nil}, {[]int{0}, nil, []int{0}, nil}, {[]int{5, 3, 0}, nil, []int{0, 2}, nil},
		{[]int{2}, []api.Choice{inverse, sum, constant, x}, []int{0, 1, 2}, []api.Choice{x, constant, sum}}, {[]int{2}, []api.Choice{inverse, sum}, []int{0, 1, 2}, []api.Choice{sum}}, {[]int{2, 4}, []api.Choice{negation, inverse, sum, diff, x}, []int{0, 1, 2, 4}, []api.Choice{diff, negation, inverse}},
		{[]int{4, 7}, []api.Choice{wild}, []int{0, 1, 2, 4}, []api.Choice{wild}}, {[]int{0}, []api.Choice{{Class: 3}}, []int{0}, []api.Choice{{Class: 0}}}, {[]int{0, 1}, []api.Choice{{Class: 3, Node: sum.Node}, x}, []int{0, 1}, []api.Choice{{Class: 0, Node: sum.Node}}},
	} {
		if got := selection.Reached(g, c.roots, c.l); !slices.Equal(got, c.reached) {
			t.Errorf("case %d: %v", i, got)
		}
		if got := selection.Trim(g, c.roots, c.l); !sameChoices(got, c.trimmed) {
			t.Errorf("case %d: %v", i, got)
		}
	}
	// An e-graph that is not rebuilt: ids that are joined are one class already.
	join(t, g, 4, 1)
	if got := selection.Reached(g, []int{2}, []api.Choice{negation, diff, x}); !slices.Equal(got, []int{1, 2}) || !g.Dirty() {
		t.Error(got)
	}
	if got := selection.Trim(g, []int{2}, []api.Choice{negation, inverse, x}); !sameChoices(got, []api.Choice{x, choose(1, api.OpNot, 0), negation}) {
		t.Error(got)
	}
}

// TestCycle checks P40.2 for Cycle.
func TestCycle(t *testing.T) {
	g := egraph.New()
	for id := range 12 {
		if _, e := g.Add(api.Node{Op: api.OpVar, Width: 8, Name: "v" + strconv.Itoa(id)}); e != api.OK {
			t.Fatal(e)
		}
	}
	to := func(class int, args ...int) api.Choice { return choose(class, api.OpAdd, args...) }
	for i, c := range []struct {
		roots []int
		l     []api.Choice
		want  []int
	}{
		{nil, []api.Choice{to(0, 0)}, nil}, {[]int{0}, nil, nil}, {[]int{0}, []api.Choice{to(0, 1, 2), to(1, 2), to(2)}, nil}, {[]int{0}, []api.Choice{to(0, 0)}, []int{0}}, {[]int{0}, []api.Choice{to(0, 1), to(1, 0)}, []int{0, 1}}, {[]int{1}, []api.Choice{to(0, 1), to(1, 0)}, []int{0, 1}}, {[]int{2}, []api.Choice{to(0, 1), to(1, 0)}, nil},
		// only among the reached classes
		{[]int{5}, []api.Choice{to(0, 0), to(5, 6), to(6, 7, 8), to(7, 5), to(8, 9)}, []int{5, 6, 7}}, {[]int{5, 0}, []api.Choice{to(0, 0), to(5, 6), to(6, 7, 8), to(7, 5), to(8, 9)}, []int{0}}, {[]int{3}, []api.Choice{to(3, 9), to(9, 7), to(7, 9)}, []int{7, 9}},
		// the shortest one, although others have lesser classes
		{[]int{0}, []api.Choice{to(0, 1), to(1, 2, 8), to(2, 0), to(8, 9), to(9, 8)}, []int{8, 9}}, {[]int{0}, []api.Choice{to(0, 1), to(1, 0, 11), to(11, 11)}, []int{11}}, {[]int{0}, []api.Choice{to(0, 1), to(1, 2), to(2, 3, 1), to(3, 0)}, []int{1, 2}},
		// of several the least one: first by the least class, then by what follows
		{[]int{0, 2}, []api.Choice{to(0, 3), to(3, 0), to(2, 1), to(1, 2)}, []int{0, 3}}, {[]int{0}, []api.Choice{to(0, 5, 3), to(3, 4), to(4, 0), to(5, 1), to(1, 0)}, []int{0, 3, 4}}, {[]int{0}, []api.Choice{to(0, 5, 3), to(3, 4), to(4, 7), to(5, 1), to(1, 0), to(7, 0)}, []int{0, 5, 1}},
		{[]int{0}, []api.Choice{to(0, 2), to(2, 7, 4), to(4, 9), to(7, 3), to(3, 0), to(9, 0)}, []int{0, 2, 4, 9}}, {[]int{0}, []api.Choice{to(0, 2), to(2, 4, 7), to(4, 9), to(7, 3), to(3, 0), to(9, 11), to(11, 0)}, []int{0, 2, 7, 3}}, {[]int{3}, []api.Choice{to(3, 2), to(2, 1), to(1, 3)}, []int{1, 3, 2}},
		// Repetitions and what is no id do not matter; the first choice of a class counts.
		{[]int{1, 1}, []api.Choice{to(1, 2, 2, -1, 99), to(2, 99, 1, 1), to(1, 1)}, []int{1, 2}},
	} {
		if got := selection.Cycle(g, c.roots, c.l); !slices.Equal(got, c.want) {
			t.Errorf("case %d: %v, not %v", i, got, c.want)
		}
	}
	// In an e-graph that is not rebuilt, classes that are joined are one already.
	join(t, g, 2, 5)
	if got := selection.Cycle(g, []int{1}, []api.Choice{to(1, 2), to(5, 1)}); !slices.Equal(got, []int{1, 2}) || !g.Dirty() {
		t.Error(got)
	}
	if got := selection.Cycle(g, []int{1}, []api.Choice{to(1, 2), to(5, 2)}); !slices.Equal(got, []int{2}) {
		t.Error(got)
	}
}

// TestCost checks P40.3 for Cost.
func TestCost(t *testing.T) {
	g := sample(t)
	var c api.Costs
	c[api.OpVar], c[api.OpConst], c[api.OpAdd], c[api.OpSub], c[api.OpNot], c[api.OpNeg] = 1, 0, 7, math.MaxInt64, -5, 3
	for i, k := range []struct {
		roots []int
		l     []api.Choice
		want  int64
		e     api.Errno
	}{
		{nil, []api.Choice{x}, 0, api.OK}, {[]int{0, 3, 0}, []api.Choice{x}, 1, api.OK}, {[]int{2}, []api.Choice{x, constant, sum}, 1 + 1 + 7, api.OK}, {[]int{2, 4, 1}, []api.Choice{x, constant, negation, inverse}, 1 + 1 + 1 + 3, api.OK},
		{[]int{0}, []api.Choice{diff, constant, negation, inverse}, 0, api.ErrCycle}, {[]int{2, 6}, []api.Choice{x, constant, sum}, 0, api.ErrRange}, {[]int{2}, []api.Choice{constant, sum}, 0, api.ErrNone}, {[]int{2, 0}, []api.Choice{x, constant, choose(2, api.OpAdd, 3, 1)}, 0, api.ErrForm},
	} {
		if n, e := selection.Cost(g, c, k.roots, k.l); n != k.want || e != k.e {
			t.Errorf("case %d: %d, %d", i, n, e)
		}
	}
	// Entries of the Costs are clamped.
	g = graph(t, "(sub x:8 1:8)")
	if n, e := selection.Cost(g, c, []int{2}, []api.Choice{x, constant, choose(2, api.OpSub, 0, 1)}); n != 1+1+api.MaxCost || e != api.OK {
		t.Error(n, e)
	}
	// Example 1 of chapter 40.
	g = graph(t, "(add x:8 x:8)")
	l := []api.Choice{choose(1, api.OpAdd, 0, 0), x}
	if n, e := selection.Cost(g, cost.Uniform(), []int{1}, l); n != 2 || e != api.OK {
		t.Error(n, e)
	}
	if u, e := selection.Term(g, l, 1); e != api.OK || cost.Tree(cost.Uniform(), u) != 3 {
		t.Error(u, e)
	}
}

// TestTerm checks P40.3 for Term.
func TestTerm(t *testing.T) {
	g := sample(t)
	all := []api.Choice{x, constant, sum, inverse}
	for i, c := range []struct {
		l    []api.Choice
		root int
		want string
		e    api.Errno
	}{
		{all, 0, "x:8", api.OK}, {all, 3, "x:8", api.OK}, {all, 1, "1:8", api.OK}, {all, 5, "(add x:8 1:8)", api.OK}, {all, 4, "(not x:8)", api.OK}, {[]api.Choice{x, negation, inverse}, 2, "(neg (not x:8))", api.OK}, {[]api.Choice{diff, x, sum, constant}, 1, "1:8", api.OK},
		{all, 6, "", api.ErrRange}, {all, -1, "", api.ErrRange}, {all[1:], 2, "", api.ErrNone}, {[]api.Choice{{}}, 0, "", api.ErrForm}, {[]api.Choice{diff, sum, constant}, 3, "", api.ErrCycle},
	} {
		u, e := selection.Term(g, c.l, c.root)
		want := api.Term{}
		if c.e == api.OK {
			want = read(t, c.want)
		}
		if e != c.e || !term.Same(u, want) {
			t.Errorf("case %d: %v, %d", i, u, e)
		}
	}
}

// tower returns an e-graph with x and n nodes, of which each has the one before it as all of its operands, and the selection of all nodes.
func tower(t *testing.T, op api.Op, arity, n int) (*egraph.Graph, []api.Choice) {
	t.Helper()
	g := graph(t, "x:8")
	l := []api.Choice{x}
	for id := 1; id <= n; id++ {
		l = append(l, choose(id, op, slices.Repeat([]int{id - 1}, arity)...))
		if got, e := g.Add(l[id].Node); got != id || e != api.OK {
			t.Fatal(got, e)
		}
	}
	return g, l
}

// TestTermLimits checks ErrLong of P40.3.
func TestTermLimits(t *testing.T) {
	deep, l := tower(t, api.OpNot, 1, 64)
	if u, e := selection.Term(deep, l, 63); e != api.OK || term.Depth(u) != 64 {
		t.Error(e)
	}
	if u, e := selection.Term(deep, l, 64); e != api.ErrLong || !term.Same(u, api.Term{}) {
		t.Error(u, e)
	}
	wide, l := tower(t, api.OpAdd, 2, 62)
	if u, e := selection.Term(wide, l, 11); e != api.OK || term.Size(u) != 4095 {
		t.Error(e)
	}
	for id := 12; id <= 62; id++ {
		if u, e := selection.Term(wide, l, id); e != api.ErrLong || !term.Same(u, api.Term{}) {
			t.Error(id, u, e)
		}
		// Costs have no such limit.
		if n, e := selection.Cost(wide, cost.Uniform(), []int{id}, l); n != int64(id)+1 || e != api.OK {
			t.Error(id, n, e)
		}
	}
	// The limit of the size itself: 4095 nodes, and one or two more.
	for _, n := range []api.Node{{Op: api.OpNot, Width: 8, Args: []int{11}}, {Op: api.OpNeg, Width: 8, Args: []int{63}}} {
		id, e := wide.Add(n)
		l = append(l, api.Choice{Class: id, Node: n})
		u, code := selection.Term(wide, l, id)
		if e != api.OK || (code == api.OK) != (id == 63) || code == api.OK && term.Size(u) != api.MaxSize || code != api.OK && code != api.ErrLong {
			t.Error(id, e, code)
		}
	}
}

// TestLarge checks that large selections are examined in a short time.
func TestLarge(t *testing.T) {
	last := api.MaxNodes - 1
	g, l := tower(t, api.OpNot, 1, last)
	if at, e := selection.Check(g, []int{last}, l); at != 0 || e != api.OK {
		t.Error(at, e)
	}
	if n, e := selection.Cost(g, cost.Uniform(), []int{last}, l); n != api.MaxNodes || e != api.OK {
		t.Error(n, e)
	}
	if _, e := selection.Term(g, l, last); e != api.ErrLong {
		t.Error(e)
	}
	if got := selection.Cycle(g, []int{last}, l); len(got) > 0 {
		t.Error(got)
	}
	// One cycle through all classes but the first ones: 2, then from the greatest one down to 3.
	join(t, g, 2, last)
	g.Rebuild()
	l[2] = choose(2, api.OpNot, last-1)
	if at, e := selection.Check(g, []int{last}, l); at != 2 || e != api.ErrCycle {
		t.Error(at, e)
	}
	if got := selection.Cycle(g, []int{last}, l); len(got) != last-2 || got[0] != 2 || got[1] != last-1 || got[2] != last-2 || got[len(got)-1] != 3 {
		t.Error(len(got))
	}
}

// TestOf checks P40.4.
func TestOf(t *testing.T) {
	g := sample(t)
	for i, c := range []struct {
		text string
		want []api.Choice
		ok   bool
	}{
		{"x:8", []api.Choice{x}, true}, {"(add x:8 1:8)", []api.Choice{x, constant, sum}, true}, {"(neg (not x:8))", []api.Choice{x, negation, inverse}, true}, {"1:8", []api.Choice{constant}, true},
		// two nodes of one class
		{"(sub (add x:8 1:8) 1:8)", nil, false}, {"(sub (neg (not x:8)) 1:8)", nil, false}, {"(not (sub (add x:8 1:8) 1:8))", nil, false},
		// not represented
		{"y:8", nil, false}, {"(add 1:8 x:8)", nil, false}, {"(not 1:8)", nil, false}, {"(add x:8 (not y:8))", nil, false}, {"x:4", nil, false}, {"2:8", nil, false}, {"?x:8", nil, false}, {"(not ?x:8)", nil, false},
	} {
		l, ok := selection.Of(g, read(t, c.text))
		if ok != c.ok || !sameChoices(l, c.want) {
			t.Errorf("case %d: %v, %v", i, l, ok)
		}
	}
	for _, u := range []api.Term{{}, {Op: api.OpAdd, Width: 8, Args: []api.Term{read(t, "x:8")}}, {Op: api.OpVar, Width: 8, Name: "x", Val: 1}, {Op: api.OpNot, Width: 8, Args: []api.Term{{Op: 99}}}} {
		if l, ok := selection.Of(g, u); ok || len(l) > 0 {
			t.Error(l, ok)
		}
	}
	// Subterms that are equal in the e-graph, and have the same nodes.
	g = graph(t, "(add (not x:8) (not y:8))")
	join(t, g, 0, 2)
	g.Rebuild()
	if l, ok := selection.Of(g, read(t, "(add (not y:8) (not y:8))")); !ok || !sameChoices(l, []api.Choice{leaf(0, "y"), choose(1, api.OpNot, 0), choose(4, api.OpAdd, 1, 1)}) {
		t.Error(l, ok)
	}
	if l, ok := selection.Of(g, read(t, "(add (not x:8) (not y:8))")); ok || len(l) > 0 {
		t.Error(l, ok)
	}
	// Operands that share memory can make a term enormous.
	huge := read(t, "x:8")
	for range 62 {
		huge = api.Term{Op: api.OpAdd, Width: 8, Args: []api.Term{huge, huge}}
	}
	if l, ok := selection.Of(g, huge); ok || len(l) > 0 {
		t.Error(l, ok)
	}
}

// TestMemory checks that results share no memory with arguments or each other, and that arguments stay as they are.
func TestMemory(t *testing.T) {
	g := sample(t)
	l := []api.Choice{x, constant, choose(2, api.OpAdd, 0, 1), choose(4, api.OpNot, 0)}
	roots := []int{4, 2, 5}
	first := selection.Trim(g, roots, l)
	second := selection.Trim(g, roots, l)
	reached := selection.Reached(g, roots, l)
	of, _ := selection.Of(g, read(t, "(add x:8 1:8)"))
	for _, c := range append(first, of...) {
		for k := range c.Node.Args {
			c.Node.Args[k] = 77
		}
	}
	reached[0] = 77
	if want := []api.Choice{x, constant, sum, inverse}; !sameChoices(l, want) || !sameChoices(second, want) || !slices.Equal(roots, []int{4, 2, 5}) {
		t.Error(l, second, roots)
	}
	if at, e := selection.Check(g, roots, l); at != 0 || e != api.OK {
		t.Error(at, e)
	}
	u, _ := selection.Term(g, []api.Choice{x, choose(4, api.OpNot, 0)}, 4)
	u.Args[0] = api.Term{}
	if v, e := selection.Term(g, l, 4); e != api.OK || !term.Same(v, read(t, "(not x:8)")) {
		t.Error(v, e)
	}
	g = graph(t, "(add (not x:8) (not x:8))")
	u, _ = selection.Term(g, []api.Choice{x, choose(1, api.OpNot, 0), choose(2, api.OpAdd, 1, 1)}, 2)
	u.Args[0].Args[0] = api.Term{}
	if !term.Same(u.Args[1], read(t, "(not x:8)")) {
		t.Error(u)
	}
}
