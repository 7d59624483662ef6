package apply_test

import (
	"math/rand/v2"
	"reflect"
	"slices"
	"testing"

	"saturate/analysis"
	"saturate/api"
	"saturate/apply"
	"saturate/egraph"
	"saturate/represent"
	"saturate/rule"
	"saturate/search"
	"saturate/subst"
	"saturate/term"
)

// random returns a pattern or term of width 3.
func random(r *rand.Rand, depth int, leaf func() api.Term) api.Term {
	if depth == 0 || r.IntN(4) == 0 {
		return leaf()
	}
	op := []api.Op{api.OpNot, api.OpAnd, api.OpAdd, api.OpAdd, api.OpShl}[r.IntN(5)]
	args := []api.Term{random(r, depth-1, leaf)}
	if op != api.OpNot {
		args = append(args, random(r, depth-1, leaf))
	}
	return term.Make(op, args...)
}

// randomGraph returns a rebuilt e-graph in which some terms are equal, whatever their values are.
func randomGraph(t *testing.T, r *rand.Rand) *egraph.Graph {
	t.Helper()
	g := egraph.New()
	leaf := func() api.Term {
		if r.IntN(2) == 0 {
			return term.Const(3, r.Uint64N(8))
		}
		return term.Var([]string{"x", "y"}[r.IntN(2)], 3)
	}
	for range 4 + r.IntN(12) {
		if _, e := represent.AddTerm(g, random(r, 3, leaf)); e != api.OK {
			t.Fatal(e)
		}
	}
	for range r.IntN(4) {
		if _, e := g.Union(r.IntN(g.Len()), r.IntN(g.Len()), api.WhyGiven); e != api.OK {
			t.Fatal(e)
		}
	}
	g.Rebuild()
	return g
}

// randomRule returns a valid rule.
func randomRule(r *rand.Rand) api.Rule {
	hole := func() api.Term {
		return api.Term{Op: api.OpHole, Width: 3, Name: []string{"a", "b"}[r.IntN(2)]}
	}
	num := func() api.Term { return api.Term{Op: api.OpNum, Width: 3, Name: "c"} }
	either := func() api.Term {
		if r.IntN(3) == 0 {
			return num()
		}
		return hole()
	}
	closed := func() api.Term {
		if r.IntN(2) == 0 {
			return num()
		}
		return term.Const(3, r.Uint64N(8))
	}
	for {
		x := api.Rule{Name: "r", Left: []api.Atom{{Pattern: random(r, 2, either)}}, Right: random(r, 2, either)}
		if r.IntN(3) == 0 {
			x.Left[0].Root = "d"
		}
		for r.IntN(3) == 0 && len(x.Left) < 3 {
			x.Left = append(x.Left, api.Atom{Root: []string{"", "a", "d"}[r.IntN(3)], Pattern: random(r, 1, either)})
		}
		if r.IntN(3) == 0 {
			x.Right = term.Make(api.OpAdd, hole(), api.Term{Op: api.OpEval, Width: 3, Args: []api.Term{random(r, 1, closed)}})
		}
		for r.IntN(2) == 0 && len(x.Guards) < 4 {
			c := api.Guard{Kind: 1 + r.IntN(4), A: hole(), B: random(r, 1, closed)}
			switch c.Kind {
			case api.GuardPred:
				c.A, c.B = term.Make(api.OpUlt, c.B, random(r, 1, closed)), api.Term{}
			case api.GuardEqual:
				c.A, c.B = random(r, 1, either), random(r, 1, either)
			}
			x.Guards = append(x.Guards, c)
		}
		if rule.Check(x) == api.OK {
			return x
		}
	}
}

// useModel does what P31.2 says for a match of a valid rule.
func useModel(t *testing.T, g *egraph.Graph, x api.Rule, m api.Match, why int) (api.Use, bool) {
	t.Helper()
	ids := map[string]int{}
	var u api.Use
	for _, p := range m.Holes {
		ids[p.Name] = p.Id
		original, e := represent.Term(g, g.Find(p.Id))
		if e != api.OK {
			t.Fatal(e)
		}
		u.Subs = append(u.Subs, api.Sub{Name: p.Name, Term: original})
	}
	for _, b := range m.Nums {
		u.Subs = append(u.Subs, api.Sub{Name: b.Name, Term: term.Const(3, b.Val)})
	}
	add := func(p api.Term) int {
		instance, e := subst.Fill(p, u.Subs)
		if e != api.OK {
			t.Fatal(e)
		}
		id, e := represent.AddTerm(g, instance)
		if e != api.OK {
			t.Fatal(e)
		}
		return id
	}
	u.A = add(x.Left[0].Pattern)
	instances := []int{u.A}
	for _, a := range x.Left[1:] {
		id := -1
		if a.Root != "" {
			id = add(a.Pattern)
		}
		instances = append(instances, id)
	}
	var pairs [][2]int
	for _, c := range x.Guards {
		var pair [2]int
		if c.Kind == api.GuardEqual {
			pair[0] = add(c.A)
			pair[1] = add(c.B)
		}
		pairs = append(pairs, pair)
	}
	u.B = add(x.Right)
	for k, a := range x.Left {
		if a.Root != "" {
			u.Ids = append(u.Ids, g.Find(ids[a.Root]), instances[k])
		}
	}
	for k, c := range x.Guards {
		switch c.Kind {
		case api.GuardEqual:
			u.Ids = append(u.Ids, pairs[k][0], pairs[k][1])
		case api.GuardZeros, api.GuardBelow:
			u.Ids = append(u.Ids, g.Find(ids[c.A.Name]))
		}
	}
	joined, e := g.Union(u.A, u.B, why)
	if e != api.OK {
		t.Fatal(e)
	}
	return u, joined
}

// copyOf returns an e-graph with the same dump, which is not dirty.
func copyOf(t *testing.T, g *egraph.Graph) *egraph.Graph {
	t.Helper()
	c, e := egraph.Restore(g.Dump())
	if e != api.OK || !reflect.DeepEqual(c.Dump(), g.Dump()) {
		t.Fatal(e)
	}
	return c
}

// TestModel checks P31.1 to P31.5 for all matches of random rules in random e-graphs.
func TestModel(t *testing.T) {
	r := rand.New(rand.NewPCG(31, 1))
	joined, equal, stopped := 0, 0, 0
	for range 1500 {
		g := randomGraph(t, r)
		rules := []api.Rule{{}, randomRule(r)}
		x := rules[1]
		table, e := analysis.Run(g)
		if e != api.OK {
			table = nil // the unions contradict each other
		}
		l, e := search.All(g, table, x, 30)
		if e != api.OK {
			t.Fatal(x, e)
		}
		for _, m := range l {
			g, model := copyOf(t, g), copyOf(t, g)
			want, wantJoined := useModel(t, model, x, m, 3)
			want.Rule = 1
			subs, subsError := apply.Subs(g, x, m)
			u, ok, e := apply.One(g, rules, 1, m, 3)
			if e != api.OK || ok != wantJoined || !sameUse(u, want) || !reflect.DeepEqual(g.Dump(), model.Dump()) {
				t.Fatalf("%v, %v: %v, %v, %d, not %v, %v", x, m, u, ok, e, want, wantJoined)
			}
			if subsError != api.OK || !sameUse(api.Use{Subs: subs}, api.Use{Subs: want.Subs}) {
				t.Fatal(x, m, subs, subsError)
			}
			if !g.Same(u.A, u.B) || !apply.Valid(g, rules, u) {
				t.Fatal(x, m, u)
			}
			g.Rebuild()
			if !g.Same(u.A, m.Roots[0]) || !apply.Valid(g, rules, u) {
				t.Fatal(x, m, u)
			}
			if ok {
				joined++
			} else {
				equal++
			}
		}
		if !checkAll(t, r, g, rules, l) {
			stopped++
		}
	}
	if joined < 1000 || equal < 300 || stopped < 50 {
		t.Error(joined, equal, stopped)
	}
}

// checkAll compares All with the uses that One makes one after the other (P31.3). It returns whether all matches were processed.
func checkAll(t *testing.T, r *rand.Rand, g *egraph.Graph, rules []api.Rule, l []api.Match) bool {
	t.Helper()
	model, nodes := copyOf(t, g), g.Len()+r.IntN(6)
	log := []api.Use{{Rule: 9}}
	want, processed := slices.Clone(log), 0
	for processed < len(l) && model.Len() < nodes {
		u, ok, e := apply.One(model, rules, 1, l[processed], len(want))
		if e != api.OK {
			t.Fatal(e)
		}
		if ok {
			want = append(want, u)
		}
		processed++
	}
	extended := copyOf(t, g)
	if own, n, all := apply.Extend(extended, rules, 1, l, apply.Copy(log), nodes); n != len(want)-1 || all != (processed == len(l)) || !slices.EqualFunc(own, want, sameUse) || !reflect.DeepEqual(extended.Dump(), model.Dump()) {
		t.Fatalf("%v: %v, %d, %v, not %v", l, own, n, all, want)
	}
	got, n, all := apply.All(g, rules, 1, l, log, nodes)
	if n != len(want)-1 || all != (processed == len(l)) || !slices.EqualFunc(got, want, sameUse) || !reflect.DeepEqual(g.Dump(), model.Dump()) {
		t.Fatalf("%v: %v, %d, %v, not %v", l, got, n, all, want)
	}
	return all
}
