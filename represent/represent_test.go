package represent_test

import (
	"math"
	"slices"
	"strconv"
	"testing"

	"saturate/api"
	"saturate/egraph"
	"saturate/hashcons"
	"saturate/represent"
	"saturate/term"
	"saturate/termtext"
)

// read reads a term.
func read(t *testing.T, s string) api.Term {
	t.Helper()
	x, e := termtext.Parse(s)
	if e != api.OK {
		t.Fatalf("%s: %d", s, e)
	}
	return x
}

// mustAdd returns the id of a term that has no error.
func mustAdd(t *testing.T, g *egraph.Graph, s string) int {
	t.Helper()
	id, e := represent.AddTerm(g, read(t, s))
	if e != api.OK {
		t.Fatalf("AddTerm of %s is %d", s, e)
	}
	return id
}

// mustAddNode returns the id of a node that has no error.
func mustAddNode(t *testing.T, g *egraph.Graph, n api.Node) int {
	t.Helper()
	id, e := g.Add(n)
	if e != api.OK {
		t.Fatalf("Add of %v is %d", n, e)
	}
	return id
}

// unusable returns e-graphs that are nil or that New did not make.
func unusable(t *testing.T) []*egraph.Graph {
	var zero egraph.Graph
	g := egraph.New()
	mustAdd(t, g, "x:8")
	used := *g
	return []*egraph.Graph{nil, &zero, &used}
}

// chain returns a variable with operators not, with the given number of nodes.
func chain(nodes int) api.Term {
	t := term.Var("x", 8)
	for range nodes - 1 {
		t = term.Make(api.OpNot, t)
	}
	return t
}

// addChain adds the nodes of a chain below an id and returns the last one.
func addChain(t *testing.T, g *egraph.Graph, id, nodes int) int {
	for range nodes {
		id = mustAddNode(t, g, api.Node{Op: api.OpNot, Width: g.Width(id), Args: []int{id}})
	}
	return id
}

// TestExamples checks the examples of chapter 19.
func TestExamples(t *testing.T) {
	g := egraph.New()
	mustAdd(t, g, "(not x:8)")
	if id, ok := represent.Find(g, read(t, "x:8")); id != 0 || !ok {
		t.Error("Find:", id, ok)
	}
	if x, e := represent.Term(g, 1); e != api.OK || termtext.Print(x) != "(not x:8)" {
		t.Error("Term:", x, e)
	}
	g = egraph.New()
	sum := mustAdd(t, g, "(add x:8 0:8)")
	g.Union(sum, 0, 0)
	g.Rebuild()
	for size, want := range []int64{0, 1, 1, 2, 2, 3, 3, 4} {
		if n, e := represent.Count(g, sum, size); n != want || e != api.OK {
			t.Errorf("Count with size %d is %d, %d, not %d", size, n, e, want)
		}
	}
}

// TestAddTerm checks P19.1: the nodes are added in postorder, each once.
func TestAddTerm(t *testing.T) {
	g := egraph.New()
	x := read(t, "(ite (eq x:8 3:8) (add x:8 (not y:8)) (extract 4 8 (concat y:8 x:8)))")
	for range 2 {
		if id, e := represent.AddTerm(g, x); id != 8 || e != api.OK {
			t.Fatal(id, e)
		}
		want := []api.Node{{Op: api.OpVar, Width: 8, Name: "x"}, {Op: api.OpConst, Width: 8, Val: 3}, {Op: api.OpEq, Width: 1, Args: []int{0, 1}}, {Op: api.OpVar, Width: 8, Name: "y"}, {Op: api.OpNot, Width: 8, Args: []int{3}}, {Op: api.OpAdd, Width: 8, Args: []int{0, 4}}, {Op: api.OpConcat, Width: 16, Args: []int{3, 0}}, {Op: api.OpExtract, Width: 8, Val: 4, Args: []int{6}}, {Op: api.OpIte, Width: 8, Args: []int{2, 5, 7}}}
		if d := g.Dump(); !slices.EqualFunc(d.Nodes, want, hashcons.Same) || len(d.Links) != 0 {
			t.Fatal(d)
		}
	}
	if y, e := represent.Term(g, 8); e != api.OK || !term.Same(x, y) {
		t.Error(y, e)
	}
	// The id is that of the node itself, also if its class has a lesser one.
	if id := mustAdd(t, g, "(not (add x:8 (not y:8)))"); id != 9 {
		t.Error(id)
	}
	g.Union(9, 0, 0)
	for range 2 {
		if id := mustAdd(t, g, "(not (add x:8 (not y:8)))"); id != 9 {
			t.Error(id)
		}
		g.Rebuild()
	}
}

// TestAddTermErrors checks the errors of P19.1, and their order.
func TestAddTermErrors(t *testing.T) {
	invalid := map[api.Errno]api.Term{
		api.ErrLong:  chain(65),
		api.ErrOp:    {Op: api.OpHole, Width: 8, Name: "a"},
		api.ErrName:  {Op: api.OpVar, Width: 8, Name: "A"},
		api.ErrWidth: {Op: api.OpNot, Width: 4, Args: []api.Term{term.Var("x", 8)}},
		api.ErrBind:  {Op: api.OpConcat, Width: 12, Args: []api.Term{term.Var("x", 8), term.Var("x", 4)}},
	}
	for i, g := range unusable(t) {
		for _, x := range invalid {
			if id, e := represent.AddTerm(g, x); id != 0 || e != api.ErrNil {
				t.Errorf("e-graph %d: %d, %d", i, id, e)
			}
		}
		if id, e := represent.AddTerm(g, term.Var("x", 8)); id != 0 || e != api.ErrNil {
			t.Errorf("e-graph %d: %d, %d", i, id, e)
		}
	}
	g := egraph.New()
	mustAdd(t, g, "y:8")
	for want, x := range invalid {
		if id, e := represent.AddTerm(g, x); id != 0 || e != want || g.Len() != 1 {
			t.Errorf("%v: %d, %d, not %d, and %d nodes", x, id, e, want, g.Len())
		}
	}
	// An error of Add: the nodes before stay.
	if id, e := represent.AddTerm(g, read(t, "(concat (not x:8) (not (neg y:4)))")); id != 0 || e != api.ErrBind || g.Len() != 3 {
		t.Error(id, e, g.Len())
	}
	if id, ok := represent.Find(g, read(t, "(not x:8)")); id != 2 || !ok {
		t.Error(id, ok)
	}
}

// TestFull checks P19.1 for an e-graph that becomes full.
func TestFull(t *testing.T) {
	g := egraph.New()
	for i := range api.MaxNodes - 2 {
		mustAddNode(t, g, api.Node{Op: api.OpConst, Width: 32, Val: uint64(i)})
	}
	if id, e := represent.AddTerm(g, read(t, "(add (not 7:32) (neg (neg 7:32)))")); id != 0 || e != api.ErrFull || g.Len() != api.MaxNodes {
		t.Error(id, e, g.Len())
	}
	if id := mustAdd(t, g, "(neg 7:32)"); id != api.MaxNodes-1 {
		t.Error(id)
	}
}

// TestFind checks Find and Has of P19.2 for terms that are not there or not valid, and for unusable e-graphs.
func TestFind(t *testing.T) {
	g := egraph.New()
	mustAdd(t, g, "(add (not x:8) 1:8)")
	mustAdd(t, g, "(zext 16 x:8)")
	missing := []api.Term{read(t, "(add (not x:8) 2:8)"), read(t, "(add 1:8 (not x:8))"), read(t, "(neg x:8)"), read(t, "(not y:8)"), read(t, "y:8"), read(t, "x:4"), read(t, "1:4"), read(t, "(not (not x:8))"), read(t, "(sext 16 x:8)"), read(t, "(zext 17 x:8)"),
		chain(65), {}, {Op: api.OpVar, Width: 8, Name: "x", Val: 1}, {Op: api.OpHole, Width: 8, Name: "x"}, {Op: api.OpNot, Width: 8}, {Op: api.OpNot, Width: 8, Args: []api.Term{{}}}}
	for _, x := range missing {
		if id, ok := represent.Find(g, x); id != 0 || ok {
			t.Errorf("Find of %v is %d, %v", x, id, ok)
		}
		for id := -1; id <= g.Len(); id++ {
			if represent.Has(g, id, x) {
				t.Errorf("Has(%d) of %v", id, x)
			}
		}
	}
	for i, s := range []string{"x:8", "(not x:8)", "1:8", "(add (not x:8) 1:8)", "(zext 16 x:8)"} {
		if id, ok := represent.Find(g, read(t, s)); id != i || !ok {
			t.Errorf("Find of %s is %d, %v", s, id, ok)
		}
		for id := -1; id <= g.Len(); id++ {
			if represent.Has(g, id, read(t, s)) != (id == i) {
				t.Errorf("Has(%d) of %s", id, s)
			}
		}
	}
	if g.Len() != 5 {
		t.Error("Find adds nodes")
	}
	for i, g := range unusable(t) {
		if id, ok := represent.Find(g, read(t, "x:8")); id != 0 || ok || represent.Has(g, 0, read(t, "x:8")) || represent.Has(g, -1, read(t, "x:8")) {
			t.Errorf("e-graph %d: %d, %v", i, id, ok)
		}
	}
}

// TestFindDirty checks P19.2 for a dirty e-graph: terms are found by the keys of the last Rebuild.
func TestFindDirty(t *testing.T) {
	g := egraph.New()
	mustAdd(t, g, "(not y:8)") // 0, 1
	mustAdd(t, g, "(neg x:8)") // 2, 3
	mustAdd(t, g, "(neg y:8)") // 4
	g.Union(0, 2, 0)
	for s, want := range map[string]int{"x:8": 0, "y:8": 0, "(not x:8)": 1, "(not y:8)": 1, "(neg x:8)": 4, "(neg y:8)": 4} {
		if id, ok := represent.Find(g, read(t, s)); id != want || !ok {
			t.Errorf("Find of %s is %d, %v", s, id, ok)
		}
	}
	if !represent.Has(g, 2, read(t, "y:8")) || represent.Has(g, 3, read(t, "(neg x:8)")) {
		t.Error("Has before Rebuild")
	}
	g.Rebuild()
	if id, ok := represent.Find(g, read(t, "(neg y:8)")); id != 3 || !ok || !represent.Has(g, 4, read(t, "(neg x:8)")) {
		t.Error("after Rebuild:", id, ok)
	}
}

// TestTermErrors checks the errors of P19.3, and their order.
func TestTermErrors(t *testing.T) {
	for i, g := range unusable(t) {
		for _, id := range []int{-1, 0, 1} {
			if x, e := represent.Term(g, id); !term.Same(x, api.Term{}) || e != api.ErrNil || represent.Size(g, id) != 0 {
				t.Errorf("e-graph %d: %v, %d, %d", i, x, e, represent.Size(g, id))
			}
		}
	}
	g := egraph.New()
	mustAdd(t, g, "(not x:8)")
	g.Union(0, 1, 0) // it does not matter whether the e-graph is dirty
	for _, id := range []int{-1, 2, math.MinInt, math.MaxInt} {
		if x, e := represent.Term(g, id); !term.Same(x, api.Term{}) || e != api.ErrRange || represent.Size(g, id) != 0 {
			t.Errorf("id %d: %v, %d, %d", id, x, e, represent.Size(g, id))
		}
	}
	for id, s := range []string{"x:8", "(not x:8)"} {
		if x, e := represent.Term(g, id); e != api.OK || termtext.Print(x) != s || represent.Size(g, id) != id+1 {
			t.Errorf("id %d: %v, %d, %d", id, x, e, represent.Size(g, id))
		}
	}
}

// TestLimits checks the limits of P19.3.
func TestLimits(t *testing.T) {
	g := egraph.New()
	x := mustAdd(t, g, "x:8")
	deep := addChain(t, g, x, api.MaxDepth-1)
	deeper := addChain(t, g, deep, 1)
	if y, e := represent.Term(g, deep); e != api.OK || !term.Same(y, chain(api.MaxDepth)) || represent.Size(g, deep) != api.MaxDepth {
		t.Error(e, represent.Size(g, deep))
	}
	if y, e := represent.Term(g, deeper); e != api.ErrLong || !term.Same(y, api.Term{}) || represent.Size(g, deeper) != api.MaxDepth+1 {
		t.Error(e, represent.Size(g, deeper))
	}
	if id, ok := represent.Find(g, chain(api.MaxDepth)); id != deep || !ok || !represent.Has(g, deep, chain(api.MaxDepth)) {
		t.Error(id, ok)
	}
	if id, ok := represent.Find(g, chain(api.MaxDepth+1)); id != 0 || ok || represent.Has(g, deeper, chain(api.MaxDepth+1)) {
		t.Error("a term that is not valid is found:", id, ok)
	}
	// The trees have 2^(k+1) - 1 nodes.
	trees := []int{x}
	for range 100 {
		last := trees[len(trees)-1]
		trees = append(trees, mustAddNode(t, g, api.Node{Op: api.OpAdd, Width: 8, Args: []int{last, last}}))
	}
	for k, id := range trees {
		size := min(2<<min(k, 20)-1, api.MaxSize+1)
		y, e := represent.Term(g, id)
		if represent.Size(g, id) != size || (e == api.OK) != (size <= api.MaxSize) || e == api.OK && term.Size(y) != size || e != api.OK && e != api.ErrLong {
			t.Errorf("tree %d: %d, %d", k, represent.Size(g, id), e)
		}
	}
	greatest := addChain(t, g, trees[11], 1)
	if y, e := represent.Term(g, greatest); e != api.OK || term.Size(y) != api.MaxSize || represent.Size(g, greatest) != api.MaxSize || term.Check(y) != api.OK {
		t.Error(e, represent.Size(g, greatest))
	}
	tooGreat := addChain(t, g, greatest, 1)
	if _, e := represent.Term(g, tooGreat); e != api.ErrLong || represent.Size(g, tooGreat) != api.MaxSize+1 {
		t.Error(e, represent.Size(g, tooGreat))
	}
}

// TestOriginal checks P19.3: the original term does not depend on classes.
func TestOriginal(t *testing.T) {
	g := egraph.New()
	texts := []string{"x:8", "(not x:8)", "3:8", "(add (not x:8) 3:8)", "y:8", "(sub y:8 (add (not x:8) 3:8))"}
	for id, s := range texts {
		if got := mustAdd(t, g, s); got != id {
			t.Fatal(s, got)
		}
	}
	check := func(when string) {
		t.Helper()
		for id, s := range texts {
			if x, e := represent.Term(g, id); e != api.OK || termtext.Print(x) != s || represent.Size(g, id) != term.Size(x) {
				t.Errorf("%s: %v, %d, not %s", when, x, e, s)
			}
		}
	}
	check("at first")
	g.Union(0, 1, 0)
	g.Union(3, 2, 0)
	check("when it is dirty")
	g.Rebuild()
	check("after Rebuild")
}

// TestMemory checks general rule 5 for terms.
func TestMemory(t *testing.T) {
	g := egraph.New()
	x := read(t, "(add (not x:8) (not x:8))")
	id, _ := represent.AddTerm(g, x)
	x.Args[0].Args[0].Name = "y"
	spoil := func(x api.Term) {
		x.Args[0].Args[0].Name = "z"
		if x.Args[1].Args[0].Name != "x" {
			t.Error("two operands share memory")
		}
	}
	for range 2 {
		x, e := represent.Term(g, id)
		if e != api.OK || termtext.Print(x) != "(add (not x:8) (not x:8))" {
			t.Fatal(x, e)
		}
		spoil(x)
		l, e := represent.Terms(g, id, 12, 1000)
		if e != api.OK || len(l) != 1 || termtext.Print(l[0]) != "(add (not x:8) (not x:8))" {
			t.Fatal(l, e)
		}
		spoil(l[0])
	}
	g.Union(id, 0, 0)
	g.Rebuild()
	l, _ := represent.Terms(g, 0, 12, 1000)
	for i := range l {
		for k := range l[:i] {
			text := termtext.Print(l[k])
			scribble(l[i])
			if termtext.Print(l[k]) != text {
				t.Fatal("two terms share memory:", text)
			}
		}
	}
}

// scribble changes all operands of a term.
func scribble(t api.Term) {
	for i := range t.Args {
		scribble(t.Args[i])
		t.Args[i].Op = api.OpNeg
	}
}

// manyVars adds the vars v0, v1 and so on of width 8.
func manyVars(t *testing.T, g *egraph.Graph, n int) {
	for i := range n {
		if id := mustAdd(t, g, "v"+strconv.Itoa(i)+":8"); id != i {
			t.Fatal(id)
		}
	}
}
