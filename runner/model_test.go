package runner_test

import (
	"math/rand/v2"
	"reflect"
	"slices"
	"testing"

	"saturate/analysis"
	"saturate/api"
	"saturate/apply"
	"saturate/egraph"
	"saturate/eval"
	"saturate/represent"
	"saturate/rule"
	"saturate/runner"
	"saturate/scheduler"
	"saturate/search"
	"saturate/term"
)

// random returns a pattern or term of the width of its leaves.
func random(r *rand.Rand, depth int, leaf func() api.Term) api.Term {
	if depth == 0 || r.IntN(4) == 0 {
		return leaf()
	}
	op := []api.Op{api.OpNot, api.OpAnd, api.OpAdd, api.OpAdd, api.OpShl}[r.IntN(5)]
	args := []api.Term{random(r, depth-1, leaf)}
	if op != api.OpNot {
		args = append(args, random(r, depth-1, leaf))
	}
	return term.Make(op, args...)
}

// randomTerms returns a rebuilt e-graph with terms.
func randomTerms(t *testing.T, r *rand.Rand, width int) *egraph.Graph {
	t.Helper()
	g := egraph.New()
	leaf := func() api.Term {
		if r.IntN(2) == 0 {
			return term.Const(width, r.Uint64())
		}
		return term.Var([]string{"x", "y"}[r.IntN(2)], width)
	}
	for range 3 + r.IntN(8) {
		if _, e := represent.AddTerm(g, random(r, 3, leaf)); e != api.OK {
			t.Fatal(e)
		}
	}
	return g
}

// randomGraph returns a rebuilt e-graph in which some terms are equal, whatever their values are.
func randomGraph(t *testing.T, r *rand.Rand) *egraph.Graph {
	t.Helper()
	g := randomTerms(t, r, 3)
	for range r.IntN(3) {
		if _, e := g.Union(r.IntN(g.Len()), r.IntN(g.Len()), api.WhyGiven); e != api.OK {
			t.Fatal(e)
		}
	}
	g.Rebuild()
	return g
}

// randomRule returns a valid rule.
func randomRule(r *rand.Rand, width int) api.Rule {
	hole := func() api.Term {
		return api.Term{Op: api.OpHole, Width: width, Name: []string{"a", "b"}[r.IntN(2)]}
	}
	num := func() api.Term { return api.Term{Op: api.OpNum, Width: width, Name: "c"} }
	either := func() api.Term {
		if r.IntN(3) == 0 {
			return num()
		}
		return hole()
	}
	closed := func() api.Term {
		if r.IntN(2) == 0 {
			return num()
		}
		return term.Const(width, r.Uint64())
	}
	for {
		x := api.Rule{Name: "r", Left: []api.Atom{{Pattern: random(r, 2, either)}}, Right: random(r, 2, either)}
		if r.IntN(4) == 0 {
			x.Left = append(x.Left, api.Atom{Root: []string{"", "a", "d"}[r.IntN(3)], Pattern: random(r, 1, either)})
		}
		if r.IntN(4) == 0 {
			x.Right = term.Make(api.OpAdd, hole(), api.Term{Op: api.OpEval, Width: width, Args: []api.Term{random(r, 1, closed)}})
		}
		for r.IntN(3) == 0 && len(x.Guards) < 3 {
			c := api.Guard{Kind: 1 + r.IntN(4), A: hole(), B: random(r, 1, closed)}
			switch c.Kind {
			case api.GuardPred:
				c.A, c.B = term.Make(api.OpUlt, c.B, random(r, 1, closed)), api.Term{}
			case api.GuardEqual:
				c.A, c.B = random(r, 1, either), random(r, 1, either)
			}
			x.Guards = append(x.Guards, c)
		}
		if rule.Check(x) == api.OK {
			return x
		}
	}
}

func randomRules(r *rand.Rand, n, width int) []api.Rule {
	var l []api.Rule
	for range n {
		l = append(l, randomRule(r, width))
	}
	return l
}

// copyOf returns an e-graph with the same dump, which is not dirty.
func copyOf(t *testing.T, g *egraph.Graph) *egraph.Graph {
	t.Helper()
	c, e := egraph.Restore(g.Dump())
	if e != api.OK || !reflect.DeepEqual(c.Dump(), g.Dump()) {
		t.Fatal(e)
	}
	return c
}

// stepModel does what P33.2 says.
func stepModel(g *egraph.Graph, rules []api.Rule, log []api.Use, states []api.Backoff, iter int, b api.Budget) ([]api.Use, []api.Backoff, api.Iteration, int) {
	b = runner.Clamp(b)
	before := slices.Clone(states)
	states = slices.Clone(states)
	var table *analysis.Table
	if b.Facts {
		_, e := analysis.Modify(g)
		if e == api.OK {
			table, e = analysis.Run(g)
		}
		if e == api.ErrConflict {
			return log, states, api.Iteration{}, api.StopConflict
		}
	}
	it := api.Iteration{Found: make([]int, len(rules)), Applied: make([]int, len(rules)), Banned: scheduler.Banned(before, iter)}
	matches := make([][]api.Match, len(rules))
	for i, r := range rules {
		if !scheduler.Ready(states[i], iter) {
			it.Found[i] = -1
			continue
		}
		l, _ := search.All(g, table, r, b.Matches)
		it.Found[i] = len(l)
		state, ok := scheduler.Take(states[i], iter, len(l))
		states[i] = state
		if ok {
			matches[i] = l
		} else {
			it.Banned++
		}
	}
	stop := 0
	for i := range rules {
		if stop == 0 {
			all := false
			log, it.Applied[i], all = apply.All(g, rules, i, matches[i], log, b.Nodes)
			if !all {
				stop = api.StopNodes
			}
			it.Unions += it.Applied[i]
		}
	}
	g.Rebuild()
	it.Nodes, it.Classes = g.Len(), g.Count()
	if stop == 0 && it.Unions+it.Banned == 0 {
		stop = api.StopSaturated
	}
	return log, states, it, stop
}

// TestStepModel compares Step with the model for random arguments (P33.2).
func TestStepModel(t *testing.T) {
	r := rand.New(rand.NewPCG(33, 2))
	stops, banned := map[int]int{}, 0
	for range 3000 {
		g := randomGraph(t, r)
		model := copyOf(t, g)
		rules := randomRules(r, r.IntN(4), 3)
		iter := r.IntN(4)
		var states []api.Backoff
		for range rules {
			states = append(states, api.Backoff{Limit: r.IntN(7) - 1, Ban: r.IntN(3), Times: r.IntN(3), Until: r.IntN(3)})
		}
		b := api.Budget{Nodes: g.Len() + r.IntN(9) - 1, Matches: r.IntN(9), Limit: 1, Ban: 1, Facts: r.IntN(2) == 0}
		if r.IntN(3) == 0 {
			b.Nodes, b.Matches = 1000, 1000
		}
		log := make([]api.Use, r.IntN(3))
		got, after, it, stop := runner.Step(g, rules, log, states, iter, b)
		wantLog, wantStates, wantIt, wantStop := stepModel(model, rules, log, states, iter, b)
		if !sameLog(got, wantLog) || !slices.Equal(after, wantStates) || !sameIteration(it, wantIt) || stop != wantStop || !reflect.DeepEqual(g.Dump(), model.Dump()) {
			t.Fatalf("%v, %v, %v: %v, %v, %v, %d, not %v, %v, %v, %d", rules, states, b, got, after, it, stop, wantLog, wantStates, wantIt, wantStop)
		}
		stops[stop]++
		banned += it.Banned
	}
	for _, stop := range []int{0, api.StopSaturated, api.StopNodes, api.StopConflict} {
		if stops[stop] < 50 {
			t.Error(stops)
		}
	}
	if banned < 300 {
		t.Error(banned)
	}
}

// runModel does what P33.3 says, with the function Step.
func runModel(g *egraph.Graph, rules []api.Rule, log []api.Use, b api.Budget) ([]api.Use, api.Report) {
	g.Rebuild()
	states := scheduler.New(len(rules), max(b.Limit, 1), max(b.Ban, 1))
	rep := api.Report{Stop: api.StopIters}
	for iter := range max(b.Iters, 0) {
		var it api.Iteration
		stop := 0
		log, states, it, stop = runner.Step(g, rules, log, states, iter, b)
		rep.Iters = append(rep.Iters, it)
		if stop != 0 {
			rep.Stop = stop
			break
		}
	}
	return log, rep
}

// TestRunModel compares Run with the iterations that Step performs (P33.3), and with another run on an equal e-graph (P33.4).
func TestRunModel(t *testing.T) {
	r := rand.New(rand.NewPCG(33, 3))
	stops, banned := map[int]int{}, 0
	for range 600 {
		g := randomGraph(t, r)
		model, again := copyOf(t, g), copyOf(t, g)
		rules := append(randomRules(r, r.IntN(3), 3), list(t, "(add ?a:3 ?b:3) (add ?b:3 ?a:3)")...)
		b := api.Budget{Iters: r.IntN(7) - 1, Nodes: 20 + r.IntN(200), Matches: 1 + r.IntN(40), Limit: r.IntN(20), Ban: r.IntN(3), Facts: r.IntN(3) == 0}
		log := make([]api.Use, r.IntN(3))
		got, rep, e := runner.Run(g, rules, log, b)
		want, wantRep := runModel(model, rules, log, b)
		if e != api.OK || !sameLog(got, want) || !sameReport(rep, wantRep) || !reflect.DeepEqual(g.Dump(), model.Dump()) {
			t.Fatalf("%v, %v: %v, %v, %d, not %v, %v", rules, b, got, rep, e, want, wantRep)
		}
		same, sameRep, e := runner.Run(again, rules, log, b)
		if e != api.OK || !sameLog(same, got) || !sameReport(sameRep, rep) || !reflect.DeepEqual(again.Dump(), g.Dump()) {
			t.Fatalf("%v, %v: not the same again", rules, b)
		}
		stops[rep.Stop]++
		for _, it := range rep.Iters {
			banned += it.Banned
		}
	}
	for _, stop := range []int{api.StopSaturated, api.StopIters, api.StopNodes, api.StopConflict} {
		if stops[stop] < 20 {
			t.Error(stops)
		}
	}
	if banned < 100 {
		t.Error(banned)
	}
}

// TestSaturation checks P33.4.
func TestSaturation(t *testing.T) {
	r := rand.New(rand.NewPCG(33, 4))
	saturated, unions := 0, 0
	for range 1000 {
		g := randomGraph(t, r)
		before := copyOf(t, g)
		rules := randomRules(r, 1+r.IntN(3), 3)
		b := api.Budget{Iters: 8, Nodes: 300, Matches: 10000, Limit: 1 + r.IntN(100), Ban: 1, Facts: r.IntN(2) == 0}
		log, rep, e := runner.Run(g, rules, nil, b)
		if e != api.OK || g.Dirty() {
			t.Fatal(e)
		}
		for _, id := range before.Classes() {
			terms, e := represent.Terms(before, id, 5, 20)
			if e != api.OK {
				t.Fatal(e)
			}
			for _, x := range terms {
				if !represent.Has(g, id, x) {
					t.Fatalf("%v: the class %d has lost %v", rules, id, x)
				}
			}
		}
		for id := range before.Len() {
			if !g.Same(id, before.Find(id)) {
				t.Fatalf("%v: %d is not equal any more", rules, id)
			}
		}
		if rep.Stop != api.StopSaturated {
			continue
		}
		var table *analysis.Table
		if b.Facts {
			if table, e = analysis.Run(g); e != api.OK {
				t.Fatal(e)
			}
		}
		if closed, e := search.Closed(g, table, rules); !closed || e != api.OK {
			t.Fatalf("%v: a match is not done", rules)
		}
		saturated++
		unions += len(log)
	}
	if saturated < 300 || unions < 300 {
		t.Error(saturated, unions)
	}
}

// soundRules returns rules of width 2 that hold for all values.
func soundRules(t *testing.T, r *rand.Rand) []api.Rule {
	t.Helper()
	sound := basic(t, 2)
	for len(sound) < 100 {
		x := randomRule(r, 2)
		if ok, _, e := rule.Sound(x); ok && e == api.OK {
			sound = append(sound, x)
		}
	}
	return sound
}

// TestSound checks P33.5: what was equal under an environment, and what a run makes equal, has the same value.
func TestSound(t *testing.T) {
	r := rand.New(rand.NewPCG(33, 5))
	sound := soundRules(t, r)
	unions, consts, joined := 0, 0, 0
	for range 700 {
		g := randomTerms(t, r, 2)
		env := map[string]uint64{"x": r.Uint64N(4), "y": r.Uint64N(4)}
		// Terms that are equal under this environment, but not under others, are joined.
		for range r.IntN(4) {
			vals := values(t, g, env)
			a, b := r.IntN(g.Len()), r.IntN(g.Len())
			if vals[a] == vals[b] {
				ok, e := g.Union(a, b, api.WhyGiven)
				if e != api.OK {
					t.Fatal(e)
				}
				if ok {
					joined++
				}
			}
		}
		var rules []api.Rule
		for range 1 + r.IntN(8) {
			rules = append(rules, sound[r.IntN(len(sound))])
		}
		b := api.Budget{Iters: 6, Nodes: 200, Matches: 500, Limit: 100, Ban: 1, Facts: r.IntN(2) == 0}
		log, rep, e := runner.Run(g, rules, nil, b)
		if e != api.OK || rep.Stop == api.StopConflict {
			t.Fatal(rep, e)
		}
		vals := values(t, g, env)
		for id, val := range vals {
			if val != vals[g.Find(id)] {
				t.Fatalf("%v: %d and %d are equal, but not their values", rules, id, g.Find(id))
			}
		}
		unions += len(log)
		for _, l := range g.Links() {
			if l.Why == api.WhyFacts {
				consts++
			}
		}
	}
	if unions < 1000 || consts < 100 || joined < 100 {
		t.Error(unions, consts, joined)
	}
}

// values returns the values of the original terms of all ids.
func values(t *testing.T, g *egraph.Graph, env map[string]uint64) []uint64 {
	t.Helper()
	var vals []uint64
	for id := range g.Len() {
		n, _ := g.Node(id)
		val, e := env[n.Name], api.OK
		if n.Op != api.OpVar {
			var args []api.Word
			for _, arg := range n.Args {
				args = append(args, api.Word{Width: g.Width(arg), Val: vals[arg]})
			}
			val, e = eval.Apply(n.Op, n.Width, n.Val, args)
		}
		if e != api.OK {
			t.Fatal(n, e)
		}
		vals = append(vals, val)
	}
	return vals
}
