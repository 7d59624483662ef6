package egraph_test

import (
	"math"
	"slices"
	"strconv"
	"testing"

	"saturate/api"
	"saturate/egraph"
	"saturate/hashcons"
)

func variable(name string, width int) api.Node {
	return api.Node{Op: api.OpVar, Width: width, Name: name}
}

func constant(width int, val uint64) api.Node {
	return api.Node{Op: api.OpConst, Width: width, Val: val}
}

// node returns a node of width 8.
func node(op api.Op, args ...int) api.Node {
	return api.Node{Op: op, Width: 8, Args: args}
}

// mustAdd returns the id of a node that has no error.
func mustAdd(t *testing.T, g *egraph.Graph, n api.Node) int {
	t.Helper()
	id, e := g.Add(n)
	if e != api.OK {
		t.Fatalf("Add of %v is %d", n, e)
	}
	return id
}

// mustJoin joins two classes, which are different.
func mustJoin(t *testing.T, g *egraph.Graph, a, b, why int) {
	t.Helper()
	if ok, e := g.Union(a, b, why); !ok || e != api.OK {
		t.Fatalf("Union(%d, %d, %d) is %v, %d", a, b, why, ok, e)
	}
}

// pair returns an e-graph with a, b, not a, not b, in which a and b are joined.
func pair(t *testing.T) *egraph.Graph {
	g := egraph.New()
	for _, n := range []api.Node{variable("a", 8), variable("b", 8), node(api.OpNot, 0), node(api.OpNot, 1)} {
		mustAdd(t, g, n)
	}
	mustJoin(t, g, 0, 1, 5)
	return g
}

// TestExample checks the example of chapter 18.
func TestExample(t *testing.T) {
	g := pair(t)
	if g.Find(3) != 3 || !g.Dirty() || g.Same(2, 3) {
		t.Error("before Rebuild:", g.Dump())
	}
	if n := g.Rebuild(); n != 1 || g.Find(3) != 2 || g.Dirty() || !g.Same(2, 3) {
		t.Error("after Rebuild:", n, g.Dump())
	}
	if n := g.Rebuild(); n != 0 || g.Count() != 2 {
		t.Error("a further Rebuild:", n)
	}
}

// TestNew checks P18.1.
func TestNew(t *testing.T) {
	g := egraph.New()
	d := g.Dump()
	if !g.Made() || g.Len() != 0 || g.Count() != 0 || len(g.Classes()) != 0 || len(d.Nodes)+len(d.Links)+len(d.Roots) != 0 || g.Dirty() || g.Rebuild() != 0 || g.Undo(0) || g.Find(0) != -1 {
		t.Error(d)
	}
	if h := egraph.New(); mustAdd(t, h, variable("a", 8)) != 0 || g.Len() != 0 {
		t.Error("two e-graphs share their nodes")
	}
	if n := g.Mark(); n != 0 {
		t.Error("the first recorded state is", n)
	}
}

// TestUnusable checks what chapter 18 says of nil e-graphs, also for those that New did not make.
func TestUnusable(t *testing.T) {
	var zero egraph.Graph
	used := *pair(t)
	for i, g := range []*egraph.Graph{nil, &zero, &used} {
		if id, e := g.Add(variable("a", 8)); id != -1 || e != api.ErrNil {
			t.Errorf("%d: Add is %d, %d", i, id, e)
		}
		if id, e := g.Add(api.Node{}); id != -1 || e != api.ErrNil {
			t.Errorf("%d: Add is %d, %d", i, id, e)
		}
		if ok, e := g.Union(0, 1, api.WhyCongruent); ok || e != api.ErrNil {
			t.Errorf("%d: Union is %v, %d", i, ok, e)
		}
		if g.Made() {
			t.Errorf("%d: New made it", i)
		}
		if g.Find(0) != -1 || g.Width(0) != -1 || g.Mark() != -1 || g.Undo(0) || g.Undo(-1) {
			t.Errorf("%d: %d, %d, %d, %v", i, g.Find(0), g.Width(0), g.Mark(), g.Undo(0))
		}
		if g.Rebuild() != 0 || g.Dirty() || g.Same(0, 0) || g.Len() != 0 || g.Count() != 0 || len(g.Classes()) != 0 || len(g.Nodes(0)) != 0 || len(g.Parents(0)) != 0 || len(g.Links()) != 0 {
			t.Errorf("%d: it has nodes", i)
		}
		if n, ok := g.Node(0); ok || !hashcons.Same(n, api.Node{}) {
			t.Errorf("%d: Node is %v, %v", i, n, ok)
		}
		if id, ok := g.Lookup(variable("a", 8)); ok || id != 0 {
			t.Errorf("%d: Lookup is %d, %v", i, id, ok)
		}
		for _, to := range []int{0, 1} {
			if p, ok := g.Path(0, to); ok || len(p) != 0 {
				t.Errorf("%d: Path is %v, %v", i, p, ok)
			}
		}
		if d := g.Dump(); len(d.Nodes)+len(d.Links)+len(d.Roots) != 0 {
			t.Errorf("%d: the dump is %v", i, d)
		}
	}
}

// TestAddErrors checks the errors of P18.2, and their order.
func TestAddErrors(t *testing.T) {
	g := egraph.New()
	mustAdd(t, g, variable("a", 8))
	mustAdd(t, g, variable("bit", 1))
	for i, c := range []struct {
		n    api.Node
		want api.Errno
	}{
		{api.Node{}, api.ErrOp}, {api.Node{Op: 27, Width: 8}, api.ErrOp}, {api.Node{Op: -1, Width: 8}, api.ErrOp}, {api.Node{Op: math.MaxInt, Width: 8, Name: "A", Args: []int{99}}, api.ErrOp},
		{api.Node{Op: api.OpHole, Width: 8, Name: "a"}, api.ErrOp}, {api.Node{Op: api.OpNum, Width: 8, Name: "a"}, api.ErrOp}, {node(api.OpEval, 0), api.ErrOp},
		{node(api.OpNot), api.ErrOp}, {node(api.OpNot, 0, 0), api.ErrOp}, {node(api.OpAdd, 0), api.ErrOp}, {node(api.OpIte, 1, 0), api.ErrOp}, {node(api.OpConst, 0), api.ErrOp}, {api.Node{Op: api.OpVar, Width: 8, Name: "A", Args: []int{99}}, api.ErrOp},
		{api.Node{Op: api.OpNot, Width: 8, Name: "a", Args: []int{99}}, api.ErrOp}, {api.Node{Op: api.OpConst, Width: 65, Name: "a"}, api.ErrOp}, {api.Node{Op: api.OpVar, Width: 8, Name: "a", Val: 1}, api.ErrOp}, {api.Node{Op: api.OpZext, Width: 9, Val: 1, Args: []int{99}}, api.ErrOp},
		{variable("", 8), api.ErrName}, {variable("A", 0), api.ErrName}, {variable("1", 8), api.ErrName}, {variable("abcdefghijklmnopq", 65), api.ErrName}, {variable("a b", 8), api.ErrName},
		{node(api.OpNot, 2), api.ErrRange}, {node(api.OpNot, -1), api.ErrRange}, {node(api.OpAdd, 0, math.MaxInt), api.ErrRange}, {api.Node{Op: api.OpAdd, Width: 99, Args: []int{math.MinInt, 0}}, api.ErrRange}, {node(api.OpAdd, 1, 2), api.ErrRange},
		{variable("a", 0), api.ErrWidth}, {variable("a", -1), api.ErrWidth}, {variable("a", 65), api.ErrWidth}, {constant(0, 0), api.ErrWidth}, {constant(4, 16), api.ErrWidth}, {constant(math.MinInt, 0), api.ErrWidth},
		{node(api.OpNot, 1), api.ErrWidth}, {node(api.OpAdd, 0, 1), api.ErrWidth}, {node(api.OpEq, 0, 0), api.ErrWidth}, {node(api.OpIte, 0, 0, 0), api.ErrWidth}, {api.Node{Op: api.OpExtract, Width: 4, Val: 5, Args: []int{0}}, api.ErrWidth}, {api.Node{Op: api.OpExtract, Width: 0, Args: []int{0}}, api.ErrWidth}, {node(api.OpConcat, 0, 1), api.ErrWidth},
		{variable("a", 4), api.ErrBind}, {variable("a", 64), api.ErrBind}, {variable("bit", 8), api.ErrBind},
	} {
		if id, e := g.Add(c.n); id != 0 || e != c.want || g.Len() != 2 {
			t.Errorf("case %d: %d, %d, not %d", i, id, e, c.want)
		}
	}
}

// TestAdd checks P18.2 for nodes of all operators, which have the next ids, and for equal ones.
func TestAdd(t *testing.T) {
	g := egraph.New()
	list := []api.Node{variable("a", 8), variable("b_1", 1), constant(8, 255), constant(8, 1), constant(64, math.MaxUint64), constant(1, 1), variable("abcdefghijklmnop", 64), node(api.OpNot, 0), node(api.OpNeg, 7)}
	for op := api.OpAnd; op <= api.OpAshr; op++ {
		list = append(list, node(op, 0, 2), node(op, 2, 0))
	}
	for op := api.OpEq; op <= api.OpSlt; op++ {
		list = append(list, api.Node{Op: op, Width: 1, Args: []int{0, 0}})
	}
	list = append(list, node(api.OpIte, 1, 0, 2), api.Node{Op: api.OpConcat, Width: 16, Args: []int{0, 7}}, api.Node{Op: api.OpExtract, Width: 4, Val: 4, Args: []int{0}}, api.Node{Op: api.OpExtract, Width: 4, Val: 3, Args: []int{0}}, api.Node{Op: api.OpZext, Width: 64, Args: []int{0}}, api.Node{Op: api.OpSext, Width: 8, Args: []int{0}})
	for range 2 {
		for i, n := range list {
			if id := mustAdd(t, g, n); id != i {
				t.Errorf("%v has the id %d, not %d", n, id, i)
			}
			if got, ok := g.Node(i); !ok || !hashcons.Same(got, n) || g.Width(i) != n.Width || g.Find(i) != i {
				t.Errorf("node %d is %v, %v, not %v", i, got, ok, n)
			}
		}
	}
	if g.Len() != len(list) || g.Count() != len(list) || len(g.Links()) != 0 || g.Dirty() {
		t.Error(g.Dump())
	}
}

// TestUnionErrors checks the errors of P18.3, and their order.
func TestUnionErrors(t *testing.T) {
	g := egraph.New()
	for i, n := range []api.Node{variable("a", 8), variable("b", 8), variable("c", 4)} {
		if mustAdd(t, g, n) != i {
			t.Fatal(i)
		}
	}
	for i, c := range []struct {
		a, b, why int
		want      api.Errno
	}{
		{0, 1, api.WhyCongruent, api.ErrArg}, {0, 99, api.WhyCongruent, api.ErrArg}, {0, 2, api.WhyCongruent, api.ErrArg}, {0, 0, api.WhyCongruent, api.ErrArg},
		{0, 3, 0, api.ErrRange}, {3, 0, 0, api.ErrRange}, {-1, 0, 0, api.ErrRange}, {2, -1, 0, api.ErrRange}, {3, 3, 0, api.ErrRange}, {math.MinInt, math.MaxInt, 7, api.ErrRange},
		{0, 2, 0, api.ErrWidth}, {2, 1, api.WhyFacts, api.ErrWidth}, {0, 0, 0, api.OK}, {2, 2, api.WhyGiven, api.OK},
	} {
		if ok, e := g.Union(c.a, c.b, c.why); ok || e != c.want || g.Dirty() || len(g.Links()) != 0 {
			t.Errorf("case %d: %v, %d, not %d", i, ok, e, c.want)
		}
	}
	for _, why := range []int{0, 1, math.MaxInt, api.WhyFacts, api.WhyGiven, -4, math.MinInt} {
		g := pair(t)
		mustJoin(t, g, 3, 1, why)
		if l := g.Links(); !slices.Equal(l, []api.Link{{A: 0, B: 1, Why: 5}, {A: 3, B: 1, Why: why}}) || g.Find(3) != 0 {
			t.Errorf("the links are %v", l)
		}
		if ok, e := g.Union(3, 0, why); ok || e != api.OK || len(g.Links()) != 2 {
			t.Errorf("a further Union is %v, %d", ok, e)
		}
	}
}

// TestKeys checks that Add and Lookup use the keys of the last Rebuild (P18.2, P18.5).
func TestKeys(t *testing.T) {
	g := pair(t)
	wantLookup := func(what string, n api.Node, want int, found bool) {
		t.Helper()
		if id, ok := g.Lookup(n); id != want || ok != found {
			t.Errorf("%s: Lookup of %v is %d, %v, not %d, %v", what, n, id, ok, want, found)
		}
	}
	wantLookup("a node whose key is canonical", node(api.OpNot, 0), 2, true)
	wantLookup("its canonical form", node(api.OpNot, 1), 2, true)
	if id := mustAdd(t, g, node(api.OpNot, 1)); id != 3 || g.Find(3) != 3 {
		t.Error("an equal node that was added before:", id, g.Find(3))
	}
	if id := mustAdd(t, g, node(api.OpNeg, 1)); id != 4 {
		t.Error("a new node:", id)
	}
	wantLookup("a node that was added while dirty", node(api.OpNeg, 0), 4, true)
	if id := mustAdd(t, g, node(api.OpNeg, 0)); id != 5 || g.Find(5) != 4 || !g.Dirty() {
		t.Error("a node with its key:", id, g.Find(5), g.Dirty())
	}
	h := egraph.New()
	for _, n := range []api.Node{variable("a", 8), variable("b", 8), node(api.OpNot, 1)} {
		mustAdd(t, h, n)
	}
	mustJoin(t, h, 1, 0, 0)
	if id, ok := h.Lookup(node(api.OpNot, 1)); id != 0 || ok {
		t.Error("a node whose key is not canonical any more:", id, ok)
	}
	if id := mustAdd(t, h, node(api.OpNot, 0)); id != 3 || h.Find(3) != 3 {
		t.Error("the node with its canonical form:", id, h.Find(id))
	}
	if n := h.Rebuild(); n != 1 || h.Find(3) != 2 {
		t.Error("Rebuild:", n)
	}
	if id, ok := h.Lookup(node(api.OpNot, 1)); id != 2 || !ok {
		t.Error("Lookup after Rebuild:", id, ok)
	}
}

// TestLookup checks Lookup of P18.5 for nodes that are not there.
func TestLookup(t *testing.T) {
	g := pair(t)
	g.Rebuild()
	for _, n := range []api.Node{{}, variable("c", 8), variable("a", 4), constant(8, 0), node(api.OpNeg, 0), node(api.OpNot), node(api.OpNot, 0, 0), node(api.OpNot, -1), node(api.OpNot, 4), node(api.OpNot, math.MinInt), {Op: api.OpNot, Width: 7, Args: []int{0}}, {Op: api.OpNot, Width: 8, Val: 1, Args: []int{0}}, {Op: api.OpNot, Width: 8, Name: "n", Args: []int{0}}, {Op: 99, Args: []int{0, 1, 2, 3}}} {
		if id, ok := g.Lookup(n); id != 0 || ok {
			t.Errorf("Lookup of %v is %d, %v", n, id, ok)
		}
	}
	if g.Len() != 4 {
		t.Error("Lookup adds nodes")
	}
}

// TestMemory checks that e-graphs share no memory with arguments and results (general rule 5).
func TestMemory(t *testing.T) {
	g := pair(t)
	n := node(api.OpAdd, 0, 1)
	mustAdd(t, g, n)
	n.Args[0] = 99
	before := g.Dump()
	got, _ := g.Node(4)
	got.Args[0] = 99
	for _, l := range g.Nodes(4) {
		l.Args[0] = 99
	}
	g.Classes()[0], g.Parents(0)[0], g.Links()[0] = 99, 99, api.Link{}
	path, _ := g.Path(0, 1)
	path[0] = api.Link{}
	d := g.Dump()
	d.Nodes[4].Args[1], d.Roots[0], d.Links[0] = 99, 99, api.Link{}
	if after := g.Dump(); !slices.EqualFunc(after.Nodes, before.Nodes, hashcons.Same) || !slices.Equal(after.Links, before.Links) || !slices.Equal(after.Roots, before.Roots) || after.Nodes[4].Args[0] != 0 {
		t.Error(after)
	}
	if l := g.Parents(0); !slices.Equal(l, []int{2, 3, 4}) {
		t.Error(l)
	}
}

// TestFull checks the limit of P18.2: ErrFull is the last error, and only for new nodes.
func TestFull(t *testing.T) {
	g := egraph.New()
	for i := range api.MaxNodes - 1 {
		if id, e := g.Add(constant(32, uint64(i))); id != i || e != api.OK {
			t.Fatal(id, e)
		}
	}
	mark := g.Mark()
	for range 2 {
		if id := mustAdd(t, g, variable("a", 8)); id != api.MaxNodes-1 {
			t.Fatal(id)
		}
		for i, c := range []struct {
			n    api.Node
			want api.Errno
		}{{constant(64, 0), api.ErrFull}, {variable("b", 8), api.ErrFull}, {node(api.OpNot, api.MaxNodes-1), api.ErrFull}, {variable("a", 4), api.ErrBind}, {node(api.OpNot, 0), api.ErrWidth}, {node(api.OpNot, api.MaxNodes), api.ErrRange}, {variable("", 8), api.ErrName}, {api.Node{}, api.ErrOp}} {
			if id, e := g.Add(c.n); id != 0 || e != c.want {
				t.Errorf("case %d: %d, %d, not %d", i, id, e, c.want)
			}
		}
		if id := mustAdd(t, g, constant(32, 7)); id != 7 || g.Len() != api.MaxNodes || g.Count() != api.MaxNodes {
			t.Error(id, g.Len(), g.Count())
		}
		if !g.Undo(mark) || g.Len() != api.MaxNodes-1 {
			t.Error("Undo:", g.Len())
		}
		mark = g.Mark()
	}
}

// TestDeep checks P18.4 and P18.7 for many congruences that follow from each other, and for long chains of unions.
func TestDeep(t *testing.T) {
	const length = 20000
	g := egraph.New()
	ids := []int{mustAdd(t, g, variable("a", 8)), mustAdd(t, g, variable("b", 8))}
	for range length {
		ids = append(ids, mustAdd(t, g, node(api.OpNot, ids[len(ids)-2])))
	}
	mark := g.Mark()
	mustJoin(t, g, 1, 0, 0)
	if n := g.Rebuild(); n != length/2 || g.Count() != length/2+1 || g.Find(length+1) != length {
		t.Fatal(n, g.Count())
	}
	if p, ok := g.Path(length, length+1); !ok || len(p) != 1 || p[0].Why != api.WhyCongruent {
		t.Error(p, ok)
	}
	if !g.Undo(mark) || g.Count() != length+2 {
		t.Fatal("Undo:", g.Count())
	}
	for id := length + 1; id > 0; id-- {
		mustJoin(t, g, id, id-1, id)
	}
	if n := g.Rebuild(); n != 0 || g.Count() != 1 || len(g.Nodes(7)) != 3 || len(g.Parents(7)) != length {
		t.Error(n, g.Count(), len(g.Nodes(7)), len(g.Parents(7)))
	}
}

// TestFormer checks that keys of former times have no effect, however many there are (P18.4, P18.7): an e-graph with a recorded state, for which they are kept, behaves like one without.
func TestFormer(t *testing.T) {
	const count = 120
	build := func(marked bool) *egraph.Graph {
		g := egraph.New()
		for i := range count {
			mustAdd(t, g, variable("v"+strconv.Itoa(i), 8))
		}
		for i := range count {
			mustAdd(t, g, node(api.OpAdd, i, (i*7+3)%count))
			mustAdd(t, g, node(api.OpNot, i))
		}
		if marked {
			g.Mark()
		}
		for id := count - 1; id > 0; id-- {
			mustJoin(t, g, id, id-1, id)
			g.Rebuild()
			mustAdd(t, g, node(api.OpSub, id, id/2))
			mustAdd(t, g, node(api.OpNot, id*2))
		}
		return g
	}
	g, h := build(false), build(true)
	d, e := g.Dump(), h.Dump()
	if !slices.EqualFunc(d.Nodes, e.Nodes, hashcons.Same) || !slices.Equal(d.Links, e.Links) || !slices.Equal(d.Roots, e.Roots) {
		t.Error("recording a state changes the result")
	}
	checkLookups(t, g)
	checkLookups(t, h)
	if !h.Undo(0) || h.Count() != 3*count || len(h.Links()) != 0 || h.Undo(0) {
		t.Error("Undo:", h.Count())
	}
	checkLookups(t, h)
}

// checkLookups checks that Lookup finds all nodes of an e-graph that is not dirty.
func checkLookups(t *testing.T, g *egraph.Graph) {
	t.Helper()
	for id := range g.Len() {
		n, _ := g.Node(id)
		if at, ok := g.Lookup(n); !ok || at != g.Find(id) {
			t.Fatalf("Lookup of node %d is %d, %v", id, at, ok)
		}
	}
}
