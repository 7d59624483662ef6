package analysis_test

import (
	"math"
	"slices"
	"strconv"
	"testing"

	"saturate/analysis"
	"saturate/api"
	"saturate/egraph"
	"saturate/facts"
	"saturate/represent"
	"saturate/snapshot"
	"saturate/termtext"
)

// mustAdd returns the id of a term that has no error.
func mustAdd(t *testing.T, g *egraph.Graph, s string) int {
	t.Helper()
	x, e := termtext.Parse(s)
	if e != api.OK {
		t.Fatalf("%s: %d", s, e)
	}
	id, e := represent.AddTerm(g, x)
	if e != api.OK {
		t.Fatalf("AddTerm of %s is %d", s, e)
	}
	return id
}

// graph returns an e-graph with terms.
func graph(t *testing.T, l ...string) *egraph.Graph {
	t.Helper()
	g := egraph.New()
	for _, s := range l {
		mustAdd(t, g, s)
	}
	return g
}

// mustJoin joins the classes of two terms, and rebuilds.
func mustJoin(t *testing.T, g *egraph.Graph, a, b string) {
	t.Helper()
	if ok, e := g.Union(mustAdd(t, g, a), mustAdd(t, g, b), api.WhyGiven); !ok || e != api.OK {
		t.Fatalf("Union of %s and %s is %v, %d", a, b, ok, e)
	}
	g.Rebuild()
}

// mustRun returns the table for an e-graph that has no conflict.
func mustRun(t *testing.T, g *egraph.Graph) *analysis.Table {
	t.Helper()
	a, e := analysis.Run(g)
	if e != api.OK || a == nil {
		t.Fatalf("Run is %v, %d", a, e)
	}
	return a
}

// unusable returns e-graphs that are nil or that New did not make.
func unusable(t *testing.T) []*egraph.Graph {
	var zero egraph.Graph
	used := *graph(t, "x:8")
	return []*egraph.Graph{nil, &zero, &used}
}

// TestExample checks the example of chapter 20.
func TestExample(t *testing.T) {
	g := egraph.New()
	id := mustAdd(t, g, "(and x:8 0:8)")
	if l := mustRun(t, g).Single(); !slices.Contains(l, api.Bind{Name: strconv.Itoa(id), Val: 0}) {
		t.Error(l)
	}
	if n, e := analysis.Modify(g); n != 1 || e != api.OK || !g.Same(id, mustAdd(t, g, "0:8")) {
		t.Error(n, e)
	}
}

// TestErrors checks the errors of P20.1 and P20.3 for e-graphs that cannot be analyzed.
func TestErrors(t *testing.T) {
	dirty := graph(t, "x:8", "y:8", "(and x:8 0:8)")
	dirty.Union(0, 1, 0)
	for i, g := range append(unusable(t), dirty) {
		want := api.ErrNil
		if g == dirty {
			want = api.ErrDirty
		}
		if a, e := analysis.Run(g); a != nil || e != want {
			t.Errorf("%d: Run is %v, %d", i, a, e)
		}
		for _, n := range []int{0, 1, -1, math.MaxInt, math.MinInt} {
			if a, e := analysis.Rounds(g, n); a != nil || e != want {
				t.Errorf("%d: Rounds is %v, %d", i, a, e)
			}
		}
		if n, e := analysis.Modify(g); n != 0 || e != want {
			t.Errorf("%d: Modify is %d, %d", i, n, e)
		}
	}
	if dirty.Len() != 4 || !dirty.Dirty() {
		t.Error("the dirty e-graph was changed")
	}
	if a := mustRun(t, egraph.New()); a.Rounds() != 0 || len(a.Single()) != 0 {
		t.Error("the empty e-graph:", a.Rounds(), a.Single())
	}
	if n, e := analysis.Modify(egraph.New()); n != 0 || e != api.OK {
		t.Error("the empty e-graph:", n, e)
	}
}

// TestRoundByRound checks what each round knows (P20.1), and that the e-graph is not changed.
func TestRoundByRound(t *testing.T) {
	g := graph(t, "(ult (and x:8 15:8) (or y:8 16:8))") // the ids: x, 15, and, y, 16, or, ult
	before := g.Dump()
	top := facts.Top(8)
	low := api.Facts{Width: 8, Known: api.Known{Zeros: 240}, Range: api.Range{Hi: 15}}
	high := api.Facts{Width: 8, Known: api.Known{Ones: 16}, Range: api.Range{Lo: 16, Hi: 255}}
	bit := facts.Top(1)
	want := [][]api.Facts{
		{top, top, top, top, top, top, bit},
		{top, facts.Const(8, 15), top, top, facts.Const(8, 16), top, bit},
		{top, facts.Const(8, 15), low, top, facts.Const(8, 16), high, bit},
		{top, facts.Const(8, 15), low, top, facts.Const(8, 16), high, facts.Const(1, 1)},
	}
	for n := range 10 {
		a, e := analysis.Rounds(g, n)
		if e != api.OK || a.Rounds() != min(n, 3) {
			t.Fatalf("%d rounds: %d, %d", n, a.Rounds(), e)
		}
		for id, f := range want[min(n, 3)] {
			if got, ok := a.Of(id); !ok || got != f {
				t.Errorf("%d rounds, id %d: %v, %v, not %v", n, id, got, ok, f)
			}
		}
	}
	for n, rounds := range map[int]int{-1: 0, math.MinInt: 0, 64: 3, 65: 3, math.MaxInt: 3} {
		if a, e := analysis.Rounds(g, n); e != api.OK || a.Rounds() != rounds {
			t.Errorf("%d rounds: %d, %d", n, a.Rounds(), e)
		}
	}
	if !snapshot.Same(g.Dump(), before) {
		t.Error("the e-graph was changed")
	}
}

// TestMaxRounds checks that there are at most MaxRounds rounds (P20.1).
func TestMaxRounds(t *testing.T) {
	g := graph(t, "5:8")
	for id := range 80 {
		g.Add(api.Node{Op: api.OpNot, Width: 8, Args: []int{id}})
	}
	for _, n := range []int{64, 65, 70, math.MaxInt} {
		a, e := analysis.Rounds(g, n)
		if e != api.OK || a.Rounds() != 64 || len(a.Single()) != 64 {
			t.Fatal(n, e, a.Rounds(), len(a.Single()))
		}
		last, _ := a.Of(63)
		next, _ := a.Of(64)
		if last != facts.Const(8, 250) || next != facts.Top(8) {
			t.Error(n, last, next)
		}
	}
	if a, e := analysis.Rounds(g, 63); e != api.OK || a.Rounds() != 63 {
		t.Error(a.Rounds(), e)
	}
	if a := mustRun(t, g); a.Rounds() != 64 {
		t.Error(a.Rounds())
	}
	// What Run leaves out is found when it runs again, after constants were added.
	if n, e := analysis.Modify(g); n != 63 || e != api.OK {
		t.Error(n, e)
	}
	for id := range 81 {
		if class := mustAdd(t, g, []string{"5:8", "250:8"}[id%2]); !g.Same(id, class) {
			t.Errorf("id %d is not in the class of its value", id)
		}
	}
}

// TestConflict checks that a conflict counts in the rounds that are computed (P20.1).
func TestConflict(t *testing.T) {
	g := graph(t, "(and x:8 15:8)", "(or y:8 16:8)")
	mustJoin(t, g, "(and x:8 15:8)", "(or y:8 16:8)") // the constants are known in round 1, these in round 2
	for n := range 5 {
		a, e := analysis.Rounds(g, n)
		if n < 2 && (e != api.OK || a.Rounds() != n) || n >= 2 && (a != nil || e != api.ErrConflict) {
			t.Errorf("%d rounds: %v, %d", n, a, e)
		}
	}
	if a, e := analysis.Run(g); a != nil || e != api.ErrConflict {
		t.Error(a, e)
	}
	if n, e := analysis.Modify(g); n != 0 || e != api.ErrConflict || g.Dirty() {
		t.Error(n, e)
	}
	// The value of id k, that of the chain, is known in round k + 1, but it is 6.
	for _, k := range []int{63, 64} {
		g = graph(t, "5:8")
		for id := range k {
			g.Add(api.Node{Op: api.OpNot, Width: 8, Args: []int{id}})
		}
		g.Union(k, mustAdd(t, g, "6:8"), 0)
		g.Rebuild()
		if a, e := analysis.Rounds(g, 63); e != api.OK || a.Rounds() != 63 {
			t.Error(k, e, a.Rounds())
		}
		for _, n := range []int{64, 65, math.MaxInt} {
			a, e := analysis.Rounds(g, n)
			if k == 63 && (a != nil || e != api.ErrConflict) || k == 64 && (e != api.OK || a.Rounds() != 64) {
				t.Error(k, n, e, a.Rounds())
			}
		}
	}
}

// TestTable checks P20.2: ids of a class share their facts, other ids have none, and a Table stays as it is.
func TestTable(t *testing.T) {
	g := graph(t, "(and x:8 15:8)", "(zext 8 z:4)", "7:4", "(ult z:4 0:4)")
	mark := g.Mark()
	mustJoin(t, g, "(and x:8 15:8)", "(zext 8 z:4)")
	mustJoin(t, g, "(sub z:4 z:4)", "7:4") // nothing is known of the difference
	a := mustRun(t, g)
	check := func() {
		t.Helper()
		want := api.Facts{Width: 8, Known: api.Known{Zeros: 240}, Range: api.Range{Hi: 15}}
		for _, id := range []int{2, 4} {
			if f, ok := a.Of(id); !ok || f != want {
				t.Errorf("id %d: %v, %v", id, f, ok)
			}
		}
		for _, id := range []int{-1, 9, 10, math.MinInt, math.MaxInt} {
			if f, ok := a.Of(id); ok || f != (api.Facts{}) {
				t.Errorf("id %d: %v, %v", id, f, ok)
			}
		}
		if l := a.Single(); !slices.Equal(l, []api.Bind{{Name: "1", Val: 15}, {Name: "5", Val: 7}, {Name: "6", Val: 0}, {Name: "7", Val: 0}}) {
			t.Error(l)
		}
	}
	check()
	a.Single()[0] = api.Bind{}
	check()
	mustJoin(t, g, "x:8", "16:8")
	mustJoin(t, g, "(and x:8 15:8)", "0:8")
	check()
	g.Undo(mark)
	check()
}

// TestSingleOrder checks that classes are in the order of their numbers, not of their names (P20.2).
func TestSingleOrder(t *testing.T) {
	g := egraph.New()
	var want []api.Bind
	for id := range 120 {
		g.Add(api.Node{Op: api.OpConst, Width: 8, Val: uint64(200 - id)})
		want = append(want, api.Bind{Name: strconv.Itoa(id), Val: uint64(200 - id)})
	}
	if l := mustRun(t, g).Single(); !slices.Equal(l, want) {
		t.Error(l)
	}
}

// TestUnusable checks what P20.2 says of tables that no function made.
func TestUnusable(t *testing.T) {
	var zero analysis.Table
	used := *mustRun(t, graph(t, "5:8"))
	for i, a := range []*analysis.Table{nil, &zero, &used} {
		if f, ok := a.Of(0); ok || f != (api.Facts{}) || a.Rounds() != 0 || len(a.Single()) != 0 {
			t.Errorf("%d: %v, %v, %d, %v", i, f, ok, a.Rounds(), a.Single())
		}
	}
}

// TestModify checks the links of P20.3.
func TestModify(t *testing.T) {
	g := graph(t, "(and x:8 0:8)", "(sub (and x:8 0:8) 1:8)", "(ult x:8 (and x:8 0:8))") // the ids: x, 0, and, 1, sub, ult
	want := []api.Link{{A: 2, B: 1, Why: api.WhyFacts}, {A: 4, B: 6, Why: api.WhyFacts}, {A: 5, B: 7, Why: api.WhyFacts}}
	if n, e := analysis.Modify(g); n != 3 || e != api.OK || !slices.Equal(g.Links(), want) || g.Dirty() {
		t.Error(n, e, g.Links())
	}
	if n, ok := g.Node(6); !ok || n.Op != api.OpConst || n.Width != 8 || n.Val != 255 {
		t.Error(n)
	}
	if n, ok := g.Node(7); !ok || n.Op != api.OpConst || n.Width != 1 || n.Val != 0 || g.Len() != 8 {
		t.Error(n)
	}
	if n, e := analysis.Modify(g); n != 0 || e != api.OK || g.Len() != 8 {
		t.Error(n, e)
	}
}

// TestModifyClasses checks that links begin at the least id of a class, and that consts of several classes are joined (P20.3).
func TestModifyClasses(t *testing.T) {
	g := graph(t, "x:8", "y:8", "(and y:8 0:8)", "(mul x:8 0:8)", "(not z:8)")
	mustJoin(t, g, "(not z:8)", "(mul x:8 0:8)")
	mustJoin(t, g, "x:8", "(and y:8 0:8)") // the class of x is 0
	mustJoin(t, g, "0:8", "(sub q:8 q:8)") // the class of 0 contains further nodes
	links := len(g.Links())
	n, e := analysis.Modify(g)
	l := g.Links()
	zero := mustAdd(t, g, "0:8")
	if n != 2 || e != api.OK || !slices.Equal(l[links:], []api.Link{{A: 0, B: 2, Why: api.WhyFacts}, {A: 4, B: 2, Why: api.WhyFacts}}) || zero != 2 {
		t.Error(n, e, l)
	}
	for _, s := range []string{"x:8", "(and y:8 0:8)", "(mul x:8 0:8)", "(not z:8)", "(sub q:8 q:8)"} {
		if !g.Same(mustAdd(t, g, s), zero) {
			t.Errorf("%s is not 0", s)
		}
	}
}

// TestModifyRepeats checks that P20.3 goes on with what the congruences of consts bring, and that what was added before an error stays.
func TestModifyRepeats(t *testing.T) {
	build := func(second string) *egraph.Graph {
		g := graph(t, "(and x:8 0:8)", "(udiv y:8 0:8)", "(udiv y:8 (and x:8 0:8))", "(sub (udiv y:8 0:8) 1:8)")
		mustJoin(t, g, "(udiv y:8 (and x:8 0:8))", second)
		return g
	}
	// Only the congruence of the two quotients tells what the difference is.
	g := build("9:8")
	if n, e := analysis.Modify(g); n != 2 || e != api.OK || !g.Same(mustAdd(t, g, "(sub (udiv y:8 0:8) 1:8)"), mustAdd(t, g, "8:8")) {
		t.Error(n, e)
	}
	// It can also lead to a conflict.
	g = build("9:8")
	mustJoin(t, g, "(udiv y:8 0:8)", "7:8")
	length := g.Len()
	if n, e := analysis.Modify(g); n != 0 || e != api.ErrConflict || g.Dirty() || g.Len() != length+1 {
		t.Error(n, e, g.Len(), length)
	}
	if !g.Same(mustAdd(t, g, "(and x:8 0:8)"), mustAdd(t, g, "0:8")) || !g.Same(mustAdd(t, g, "7:8"), mustAdd(t, g, "9:8")) {
		t.Error("what was added before has gone")
	}
}

// TestModifyFull checks the error of Add in P20.3.
func TestModifyFull(t *testing.T) {
	g := graph(t, "(and x:16 0:16)", "(or (and x:16 0:16) 3:16)", "(mul (and x:16 0:16) 5:16)", "(add 3:16 5:16)", "(add 3:16 3:16)")
	for k := 0; g.Len() < api.MaxNodes; k++ {
		if _, e := g.Add(api.Node{Op: api.OpVar, Width: 4, Name: "v" + strconv.Itoa(k)}); e != api.OK {
			t.Fatal(e)
		}
	}
	// The consts 0, 3 and 0 again are there, and 8 is not.
	want := []api.Link{{A: 2, B: 1, Why: api.WhyFacts}, {A: 4, B: 3, Why: api.WhyFacts}, {A: 6, B: 1, Why: api.WhyFacts}}
	if n, e := analysis.Modify(g); n != 0 || e != api.ErrFull || !g.Dirty() || !slices.Equal(g.Links(), want) || g.Len() != api.MaxNodes {
		t.Error(n, e, g.Dirty(), g.Links(), g.Len())
	}
}
