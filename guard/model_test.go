package guard_test

import (
	"math/rand/v2"
	"slices"
	"testing"

	"saturate/analysis"
	"saturate/api"
	"saturate/egraph"
	"saturate/eval"
	"saturate/guard"
	"saturate/represent"
	"saturate/subst"
	"saturate/term"
)

// The variables of the e-graphs.
var vars = []api.Var{{Name: "x", Width: 3}, {Name: "y", Width: 3}}

// The names of the matches.
var (
	holeNames = []string{"a", "b", "c"}
	numNames  = []string{"k", "m"}
)

// random returns a term of width 3 whose leaves are consts and others.
func random(r *rand.Rand, depth int, leaf func() api.Term) api.Term {
	if depth == 0 || r.IntN(4) == 0 {
		if r.IntN(3) == 0 {
			return term.Const(3, r.Uint64N(8))
		}
		return leaf()
	}
	op := []api.Op{api.OpNot, api.OpAnd, api.OpAnd, api.OpOr, api.OpAdd, api.OpShl, api.OpLshr, api.OpMul}[r.IntN(8)]
	args := []api.Term{random(r, depth-1, leaf)}
	if op != api.OpNot {
		args = append(args, random(r, depth-1, leaf))
	}
	return term.Make(op, args...)
}

// randomGraph returns an e-graph in which only terms with the same values are joined, and the values of all ids.
func randomGraph(t *testing.T, r *rand.Rand) (*egraph.Graph, [][]uint64) {
	t.Helper()
	g := egraph.New()
	leaf := func() api.Term {
		v := vars[r.IntN(2)]
		return term.Var(v.Name, v.Width)
	}
	for range 12 {
		if _, e := represent.AddTerm(g, random(r, 3, leaf)); e != api.OK {
			t.Fatal(e)
		}
	}
	var values [][]uint64
	for id := range g.Len() {
		original, _ := represent.Term(g, id)
		l, e := eval.Table(original, vars)
		if e != api.OK {
			t.Fatal(e)
		}
		for other := range id {
			if slices.Equal(values[other], l) && r.IntN(4) > 0 {
				g.Union(id, other, api.WhyGiven)
			}
		}
		values = append(values, l)
	}
	g.Rebuild()
	return g, values
}

// randomGuard returns a guard for which Check returns OK.
func randomGuard(r *rand.Rand) api.Guard {
	num := func() api.Term { return api.Term{Op: api.OpNum, Width: 3, Name: numNames[r.IntN(2)]} }
	hole := func() api.Term { return api.Term{Op: api.OpHole, Width: 3, Name: holeNames[r.IntN(3)]} }
	c := api.Guard{Kind: 1 + r.IntN(4), A: hole(), B: random(r, 2, num)}
	switch c.Kind {
	case api.GuardPred:
		c.A = term.Make([]api.Op{api.OpEq, api.OpUlt, api.OpSlt}[r.IntN(3)], c.B, random(r, 2, num))
		c.B = api.Term{}
	case api.GuardEqual:
		either := func() api.Term {
			if r.IntN(3) == 0 {
				return num()
			}
			return hole()
		}
		c.A, c.B = random(r, 1, either), random(r, 1, either)
	}
	return c
}

// ofNode returns a guard that says of a node that it is in the class of ?a, and the holes for which it holds.
func ofNode(n api.Node, id int) (api.Guard, []api.Pair) {
	p := api.Term{Op: n.Op, Width: n.Width, Val: n.Val}
	ids := append([]int{id}, n.Args...)
	var holes []api.Pair
	for k, name := range holeNames {
		holes = append(holes, api.Pair{Name: name, Id: ids[min(k, len(ids)-1)]})
	}
	for k := range n.Args {
		p.Args = append(p.Args, api.Term{Op: api.OpHole, Width: 3, Name: holeNames[k+1]})
	}
	return api.Guard{Kind: api.GuardEqual, A: p, B: api.Term{Op: api.OpHole, Width: 3, Name: holeNames[0]}}, holes
}

// randomCase returns a guard and a match for which it may hold.
func randomCase(r *rand.Rand, g *egraph.Graph) (api.Guard, api.Match) {
	c := randomGuard(r)
	var m api.Match
	for _, name := range numNames {
		m.Nums = append(m.Nums, api.Bind{Name: name, Val: r.Uint64N(8)})
	}
	id := r.IntN(g.Len())
	if n, _ := g.Node(id); c.Kind == api.GuardEqual && n.Op != api.OpVar && r.IntN(3) == 0 {
		c, m.Holes = ofNode(n, id)
		return c, m
	}
	for _, name := range holeNames {
		m.Holes = append(m.Holes, api.Pair{Name: name, Id: r.IntN(g.Len())})
	}
	return c, m
}

// isTrue reports whether Term of a guard has the value 1 for values of its holes.
func isTrue(t *testing.T, c api.Guard, m api.Match, valueOf func(id int) uint64) bool {
	t.Helper()
	var subs []api.Sub
	for _, b := range m.Nums {
		subs = append(subs, api.Sub{Name: b.Name, Term: term.Const(3, b.Val)})
	}
	for _, p := range m.Holes {
		subs = append(subs, api.Sub{Name: p.Name, Term: term.Const(3, valueOf(p.Id))})
	}
	filled, e := subst.Fill(guard.Term(c), subs)
	if e != api.OK {
		t.Fatalf("%v: %d", c, e)
	}
	val, e := eval.Eval(filled, nil)
	if e != api.OK {
		t.Fatalf("%v: %d", c, e)
	}
	return val == 1
}

// widened returns variables of width 3 with some names.
func widened(names []string) []api.Var {
	var l []api.Var
	for _, name := range names {
		l = append(l, api.Var{Name: name, Width: 3})
	}
	return l
}

// TestSound checks P27.6.
func TestSound(t *testing.T) {
	r := rand.New(rand.NewPCG(27, 6))
	holding := map[int]int{} // by kind
	for range 150 {
		g, values := randomGraph(t, r)
		table, e := analysis.Run(g)
		if e != api.OK {
			t.Fatal(e)
		}
		for range 100 {
			c, m := randomCase(r, g)
			if e := guard.Check(c, widened(holeNames), widened(numNames)); e != api.OK {
				t.Fatalf("%v: %d", c, e)
			}
			if !guard.Holds(g, table, c, m) {
				continue
			}
			holding[c.Kind]++
			for row := range values[0] {
				if !isTrue(t, c, m, func(id int) uint64 { return values[id][row] }) {
					t.Fatalf("%v holds for %v, but is not true in row %d", c, m, row)
				}
			}
		}
	}
	for kind := api.GuardPred; kind <= api.GuardBelow; kind++ {
		if holding[kind] < 300 {
			t.Error(holding)
		}
	}
}

// TestValues checks P27.3 by filling patterns with consts.
func TestValues(t *testing.T) {
	r := rand.New(rand.NewPCG(27, 3))
	for range 2000 {
		p := random(r, 4, func() api.Term { return api.Term{Op: api.OpNum, Width: 3, Name: numNames[r.IntN(2)]} })
		nums := []api.Bind{{Name: "m", Val: r.Uint64()}, {Name: "m", Val: r.Uint64()}, {Name: "k", Val: r.Uint64()}, {Name: "k", Val: r.Uint64()}}
		filled, e := subst.Fill(p, []api.Sub{{Name: "m", Term: term.Const(3, nums[0].Val)}, {Name: "k", Term: term.Const(3, nums[2].Val)}})
		if e != api.OK {
			t.Fatal(e)
		}
		want, e := eval.Eval(filled, nil)
		if val, ok := guard.Value(p, nums); e != api.OK || !ok || val != want {
			t.Fatalf("%v: %d, %v, not %d", p, val, ok, want)
		}
	}
}
