package search_test

import (
	"math/rand/v2"
	"slices"
	"testing"

	"saturate/analysis"
	"saturate/api"
	"saturate/egraph"
	"saturate/guard"
	"saturate/machine"
	"saturate/represent"
	"saturate/search"
	"saturate/subst"
	"saturate/term"
)

// random returns a pattern or term of width 3.
func random(r *rand.Rand, depth int, leaf func() api.Term) api.Term {
	if depth == 0 || r.IntN(4) == 0 {
		return leaf()
	}
	op := []api.Op{api.OpNot, api.OpAnd, api.OpAdd, api.OpAdd, api.OpShl}[r.IntN(5)]
	args := []api.Term{random(r, depth-1, leaf)}
	if op != api.OpNot {
		args = append(args, random(r, depth-1, leaf))
	}
	return term.Make(op, args...)
}

// randomGraph returns a rebuilt e-graph in which some terms are equal, whatever their values are.
func randomGraph(t *testing.T, r *rand.Rand) *egraph.Graph {
	t.Helper()
	g := egraph.New()
	leaf := func() api.Term {
		if r.IntN(2) == 0 {
			return term.Const(3, r.Uint64N(8))
		}
		return term.Var([]string{"x", "y"}[r.IntN(2)], 3)
	}
	for range 4 + r.IntN(12) {
		if _, e := represent.AddTerm(g, random(r, 3, leaf)); e != api.OK {
			t.Fatal(e)
		}
	}
	for range r.IntN(4) {
		if _, e := g.Union(r.IntN(g.Len()), r.IntN(g.Len()), api.WhyGiven); e != api.OK {
			t.Fatal(e)
		}
	}
	g.Rebuild()
	return g
}

// The leaves of random rules.
func hole(r *rand.Rand) api.Term {
	return api.Term{Op: api.OpHole, Width: 3, Name: []string{"a", "b"}[r.IntN(2)]}
}

func num(r *rand.Rand) api.Term {
	return api.Term{Op: api.OpNum, Width: 3, Name: "c"}
}

// randomRule returns a rule whose guards and Right may lack names of the atoms, and the other way round.
func randomRule(r *rand.Rand) api.Rule {
	either := func() api.Term {
		if r.IntN(3) == 0 {
			return num(r)
		}
		return hole(r)
	}
	closed := func() api.Term {
		if r.IntN(2) == 0 {
			return num(r)
		}
		return term.Const(3, r.Uint64N(8))
	}
	x := api.Rule{Name: "r", Left: []api.Atom{{Pattern: random(r, 2, either)}}, Right: random(r, 2, either)}
	if r.IntN(3) == 0 {
		x.Left = append(x.Left, api.Atom{Root: []string{"", "a", "d"}[r.IntN(3)], Pattern: random(r, 1, either)})
	}
	if r.IntN(3) == 0 {
		x.Right = term.Make(api.OpAdd, hole(r), api.Term{Op: api.OpEval, Width: 3, Args: []api.Term{random(r, 1, closed)}})
	}
	for r.IntN(2) == 0 {
		c := api.Guard{Kind: 1 + r.IntN(4), A: hole(r), B: random(r, 1, closed)}
		switch c.Kind {
		case api.GuardPred:
			c.A, c.B = term.Make(api.OpUlt, c.B, random(r, 1, closed)), api.Term{}
		case api.GuardEqual:
			c.A, c.B = random(r, 1, either), random(r, 1, either)
		}
		x.Guards = append(x.Guards, c)
	}
	return x
}

// isDone reports whether a match is done: whether the instance of Right, with the original terms of the classes of the holes, is in the class of the first root.
func isDone(g *egraph.Graph, x api.Rule, m api.Match) bool {
	var subs []api.Sub
	for _, p := range m.Holes {
		original, _ := represent.Term(g, p.Id)
		subs = append(subs, api.Sub{Name: p.Name, Term: original})
	}
	for _, b := range m.Nums {
		subs = append(subs, api.Sub{Name: b.Name, Term: term.Const(3, b.Val)})
	}
	filled, e := subst.Fill(x.Right, subs)
	return e == api.OK && represent.Has(g, m.Roots[0], filled)
}

// TestModel checks P30.1 to P30.4 for random rules and e-graphs.
func TestModel(t *testing.T) {
	r := rand.New(rand.NewPCG(30, 1))
	kept, excluded, done, open := 0, 0, 0, 0
	for range 1500 {
		g, x := randomGraph(t, r), randomRule(r)
		table, e := analysis.Run(g)
		if e != api.OK {
			table = nil // the unions contradict each other
		}
		atoms, e := machine.Find(g, x.Left, api.MaxMatches)
		if e != api.OK {
			t.Fatal(x, e)
		}
		var want []api.Match
		closed := true
		for _, m := range atoms {
			holds := !slices.ContainsFunc(x.Guards, func(c api.Guard) bool { return !guard.Holds(g, table, c, m) })
			if search.Holds(g, table, x, m) != holds {
				t.Fatalf("%v: %v", x, m)
			}
			if !holds {
				excluded++
				continue
			}
			kept++
			want = append(want, m)
			if isDone(g, x, m) {
				done++
			} else {
				open++
				closed = false
			}
			if search.Done(g, x, m) != isDone(g, x, m) {
				t.Fatalf("%v: %v is done: %v, in %v", x, m, isDone(g, x, m), g.Dump())
			}
		}
		l, e := search.All(g, table, x, api.MaxMatches)
		if e != api.OK || !slices.EqualFunc(l, want, machine.Same) {
			t.Fatalf("%v: %v, %d, not %v", x, l, e, want)
		}
		most := r.IntN(6)
		if l, e := search.All(g, table, x, most); e != api.OK || !slices.EqualFunc(l, want[:min(most, len(want))], machine.Same) {
			t.Fatalf("%v: %v, %d, not %v", x, l, e, want)
		}
		if n, e := search.Count(g, table, x); n != len(want) || e != api.OK {
			t.Fatal(x, n, e)
		}
		if ok, e := search.Closed(g, table, []api.Rule{x}); ok != closed || e != api.OK {
			t.Fatal(x, ok, e)
		}
	}
	if kept < 2000 || excluded < 2000 || done < 300 || open < 300 {
		t.Error(kept, excluded, done, open)
	}
}
