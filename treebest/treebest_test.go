package treebest_test

import (
	"math"
	"math/rand/v2"
	"slices"
	"strconv"
	"testing"

	"saturate/api"
	"saturate/cost"
	"saturate/egraph"
	"saturate/hashcons"
	"saturate/represent"
	"saturate/term"
	"saturate/termtext"
	"saturate/treebest"
)

// read reads a term.
func read(t *testing.T, s string) api.Term {
	t.Helper()
	x, e := termtext.Parse(s)
	if e != api.OK {
		t.Fatalf("%s: %d", s, e)
	}
	return x
}

// graph returns an e-graph with terms.
func graph(t *testing.T, l ...string) *egraph.Graph {
	t.Helper()
	g := egraph.New()
	for _, s := range l {
		if _, e := represent.AddTerm(g, read(t, s)); e != api.OK {
			t.Fatalf("%s: %d", s, e)
		}
	}
	return g
}

// add adds a node of width 8 that must be valid.
func add(t *testing.T, g *egraph.Graph, op api.Op, args ...int) int {
	t.Helper()
	id, e := g.Add(api.Node{Op: op, Width: 8, Args: args})
	if e != api.OK {
		t.Fatal(op, args, e)
	}
	return id
}

// variable adds a var of width 8.
func variable(t *testing.T, g *egraph.Graph, name string) int {
	t.Helper()
	id, e := g.Add(api.Node{Op: api.OpVar, Width: 8, Name: name})
	if e != api.OK {
		t.Fatal(name, e)
	}
	return id
}

// join joins two ids.
func join(t *testing.T, g *egraph.Graph, a, b int) {
	t.Helper()
	if _, e := g.Union(a, b, api.WhyGiven); e != api.OK {
		t.Fatal(a, b, e)
	}
}

// run returns the table of a rebuilt e-graph.
func run(t *testing.T, g *egraph.Graph, c api.Costs) *treebest.Table {
	t.Helper()
	g.Rebuild()
	b, e := treebest.Run(g, c)
	if e != api.OK || b == nil {
		t.Fatal(b, e)
	}
	return b
}

// check checks the text, the cost and the size of a best term.
func check(t *testing.T, b *treebest.Table, id int, want string, wantCost int64) {
	t.Helper()
	x, e := b.Term(id)
	if e != api.OK || termtext.Print(x) != want || b.Cost(id) != wantCost || b.Size(id) != term.Size(x) {
		t.Errorf("%d: %s, %d, %d, %d, not %s, %d", id, termtext.Print(x), e, b.Cost(id), b.Size(id), want, wantCost)
	}
}

// TestExample checks the example of chapter 39.
func TestExample(t *testing.T) {
	g := graph(t, "(mul x:8 2:8)", "(shl x:8 1:8)")
	join(t, g, 2, 4)
	c := cost.Uniform()
	c[api.OpMul] = 3
	b := run(t, g, c)
	check(t, b, 2, "(shl x:8 1:8)", 3)
	check(t, b, 4, "(shl x:8 1:8)", 3)
	if x, n, e := treebest.Best(g, c, 4); e != api.OK || n != 3 || !term.Same(x, read(t, "(shl x:8 1:8)")) {
		t.Error(x, n, e)
	}
}

// TestErrors checks the errors of P39.1 and P39.4, and their order.
func TestErrors(t *testing.T) {
	var zero egraph.Graph
	used := *graph(t, "x:8")
	dirty := graph(t, "x:8", "y:8")
	join(t, dirty, 0, 1)
	for i, x := range []struct {
		g    *egraph.Graph
		want api.Errno
	}{{nil, api.ErrNil}, {&zero, api.ErrNil}, {&used, api.ErrNil}, {dirty, api.ErrDirty}} {
		if b, e := treebest.Run(x.g, cost.Uniform()); b != nil || e != x.want {
			t.Errorf("e-graph %d: %v, %d", i, b, e)
		}
		for _, id := range []int{0, -1, 99} {
			if y, n, e := treebest.Best(x.g, cost.Uniform(), id); !term.Same(y, api.Term{}) || n != 0 || e != x.want {
				t.Errorf("e-graph %d, id %d: %v, %d, %d", i, id, y, n, e)
			}
		}
	}
	g := graph(t, "(not x:8)")
	for _, id := range []int{-1, 2, math.MinInt, math.MaxInt} {
		if y, n, e := treebest.Best(g, cost.Uniform(), id); !term.Same(y, api.Term{}) || n != 0 || e != api.ErrRange {
			t.Errorf("id %d: %v, %d, %d", id, y, n, e)
		}
	}
	b := run(t, egraph.New(), cost.Uniform())
	if _, e := b.Term(0); e != api.ErrRange || len(b.Choices(0)) != 0 {
		t.Error("the empty e-graph has terms")
	}
}

// TestMissing checks P39.2 and P39.3 for tables and ids that do not exist.
func TestMissing(t *testing.T) {
	g := graph(t, "(not x:8)")
	made := run(t, g, cost.Uniform())
	used := *made
	for i, b := range []*treebest.Table{nil, {}, &used, made} {
		want := api.ErrNil
		ids := []int{-1, 0, 1, 2, math.MinInt, math.MaxInt}
		if b == made {
			want = api.ErrRange
			ids = []int{-1, 2, math.MinInt, math.MaxInt}
		}
		for _, id := range ids {
			n, ok := b.Node(id)
			x, e := b.Term(id)
			if b.Cost(id) != -1 || b.Size(id) != 0 || ok || !hashcons.Same(n, api.Node{}) || e != want || !term.Same(x, api.Term{}) {
				t.Errorf("table %d, id %d: %d, %d, %v, %v, %v, %d", i, id, b.Cost(id), b.Size(id), n, ok, x, e)
			}
		}
		if l := b.Choices(ids...); len(l) != 0 {
			t.Errorf("table %d: %v", i, l)
		}
	}
}

// TestCosts checks that costs are clamped as in chapter 10 (P39.2).
func TestCosts(t *testing.T) {
	g := graph(t, "(add (not x:8) (neg y:8))")
	var c api.Costs
	c[api.OpAdd], c[api.OpNot], c[api.OpNeg], c[api.OpVar] = math.MaxInt64, math.MinInt64, 5, -1
	b := run(t, g, c)
	check(t, b, 4, "(add (not x:8) (neg y:8))", api.MaxCost+1+1+5+1)
	check(t, b, 1, "(not x:8)", 2)
	check(t, b, 3, "(neg y:8)", 6)
}

// TestOrder checks that the least one by term.Compare is taken among the terms of least cost (P39.1).
func TestOrder(t *testing.T) {
	c := cost.Uniform()
	c[api.OpNeg], c[api.OpMul], c[api.OpConst], c[api.OpConcat] = 3, 2, 2, 2
	for i, x := range []struct {
		terms []string // equal ones
		want  string
		cost  int64
	}{
		{[]string{"(neg x:8)", "(not (not (not x:8)))"}, "(neg x:8)", 4}, // the size first
		{[]string{"(not (not (not x:8)))", "(neg x:8)"}, "(neg x:8)", 4},
		{[]string{"(add x:8 1:8)", "(mul x:8 y:8)"}, "(add x:8 1:8)", 4}, // then the operator
		{[]string{"(mul x:8 y:8)", "(add x:8 1:8)"}, "(add x:8 1:8)", 4},
		{[]string{"(add x:8 x:8)", "(shl y:8 x:8)", "(sub x:8 y:8)"}, "(add x:8 x:8)", 3},
		{[]string{"9:8", "200:8", "3:8"}, "3:8", 2}, // then the value
		{[]string{"(extract 1 8 w:16)", "(extract 0 8 w:16)", "(extract 2 8 w:16)"}, "(extract 0 8 w:16)", 2},
		{[]string{"b:8", "a2:8", "c:8", "a:8", "a10:8"}, "a:8", 1},                        // then the name
		{[]string{"(add y:8 x:8)", "(add x:8 y:8)", "(add z:8 x:8)"}, "(add x:8 y:8)", 3}, // then the operands
		{[]string{"(add x:8 z:8)", "(add x:8 y:8)"}, "(add x:8 y:8)", 3},
		{[]string{"(add (not x:8) y:8)", "(add y:8 (not x:8))", "(add y:8 (not y:8))"}, "(add y:8 (not x:8))", 4}, // where the size comes first, too
		{[]string{"(add (not (neg x:8)) (not x:8))", "(add (neg x:8) (not (not x:8)))"}, "(add (neg x:8) (not (not x:8)))", 8},
		{[]string{"(add (shl x:8 y:8) (sub y:8 x:8))", "(add (sub y:8 x:8) (shl x:8 y:8))", "(add (sub y:8 x:8) (shl x:8 x:8))"}, "(add (sub y:8 x:8) (shl x:8 x:8))", 7},
		{[]string{"(ite f:1 x:8 y:8)", "(ite f:1 y:8 x:8)", "(ite e:1 y:8 x:8)"}, "(ite e:1 y:8 x:8)", 4},
		{[]string{"(ite f:1 x:8 y:8)", "(ite f:1 x:8 x:8)"}, "(ite f:1 x:8 x:8)", 4},
		{[]string{"(zext 8 v:5)", "(zext 8 u:6)", "(sext 8 u:6)"}, "(zext 8 v:5)", 2}, // and the width of operands
		{[]string{"(concat (not p:4) q:4)", "(concat (not r:3) s:5)"}, "(concat (not r:3) s:5)", 5},
	} {
		for range 2 {
			slices.Reverse(x.terms)
			g := graph(t, x.terms...)
			var ids []int
			for _, s := range x.terms {
				id, _ := represent.Find(g, read(t, s))
				ids = append(ids, id)
				join(t, g, ids[0], id)
			}
			b := run(t, g, c)
			for _, id := range ids {
				t.Run(strconv.Itoa(i), func(t *testing.T) { check(t, b, id, x.want, x.cost) })
			}
		}
	}
}

// TestLater checks that a table does not change with its e-graph (P39.1, P39.2).
func TestLater(t *testing.T) {
	g := graph(t, "(add x:8 (not y:8))")
	b := run(t, g, cost.Uniform())
	join(t, g, 3, 1)
	g.Rebuild()
	z := variable(t, g, "z")
	check(t, b, 3, "(add x:8 (not y:8))", 4)
	check(t, b, 1, "y:8", 1)
	if b.Cost(z) != -1 {
		t.Error("the table has a later id")
	}
	if l := b.Choices(3); len(l) != 4 || l[3].Class != 3 {
		t.Error(l)
	}
	check(t, run(t, g, cost.Uniform()), 3, "y:8", 1)
}

// TestNodes checks Node and Choices (P39.2, P39.3).
func TestNodes(t *testing.T) {
	// x 0, 2:8 1, mul 2, 1:8 3, shl 4, y 5, add 6, not 7, z 8
	g := graph(t, "(mul x:8 2:8)", "(shl x:8 1:8)", "(add (mul x:8 2:8) y:8)", "(not (add (shl x:8 1:8) y:8))", "z:8")
	join(t, g, 4, 2)
	join(t, g, 5, 0)
	c := cost.Uniform()
	c[api.OpMul] = 2
	b := run(t, g, c)
	// add (shl x 1) y is a further node, with the id 7
	not, _ := represent.Find(g, read(t, "(not (add (mul x:8 2:8) y:8))"))
	node := func(op api.Op, args ...int) api.Node { return api.Node{Op: op, Width: 8, Args: args} }
	nodes := map[int]api.Node{0: {Op: api.OpVar, Width: 8, Name: "x"}, 2: node(api.OpShl, 0, 3), 3: {Op: api.OpConst, Width: 8, Val: 1}, 6: node(api.OpAdd, 2, 0), not: node(api.OpNot, 6)}
	for id, want := range map[int]api.Node{0: nodes[0], 5: nodes[0], 2: nodes[2], 4: nodes[2], 3: nodes[3], 6: nodes[6], 7: nodes[6], not: nodes[not]} {
		if n, ok := b.Node(id); !ok || !hashcons.Same(n, want) {
			t.Errorf("node of %d: %v, %v", id, n, ok)
		}
	}
	for i, x := range []struct{ roots, want []int }{
		{nil, nil}, {[]int{-1, 99}, nil}, {[]int{5}, []int{0}}, {[]int{4}, []int{0, 2, 3}}, {[]int{6}, []int{0, 2, 3, 6}}, {[]int{not, 0, not, 99, 3}, []int{0, 2, 3, 6, not}}, {[]int{3, 0}, []int{0, 3}},
	} {
		var want []api.Choice
		for _, class := range x.want {
			want = append(want, api.Choice{Class: class, Node: nodes[class]})
		}
		roots := slices.Clone(x.roots)
		l := b.Choices(roots...)
		if !slices.EqualFunc(l, want, func(p, q api.Choice) bool { return p.Class == q.Class && hashcons.Same(p.Node, q.Node) }) || !slices.Equal(roots, x.roots) {
			t.Errorf("case %d: %v", i, l)
		}
	}
}

// TestMemory checks general rule 5.
func TestMemory(t *testing.T) {
	g := graph(t, "(add x:8 (not y:8))")
	b := run(t, g, cost.Uniform())
	n, _ := b.Node(3)
	n.Args[0] = 9
	for _, c := range b.Choices(3) {
		if len(c.Node.Args) > 0 {
			c.Node.Args[0] = 9
		}
	}
	x, _ := b.Term(3)
	x.Args[1].Args[0].Name = "q"
	x.Args[0] = api.Term{}
	check(t, b, 3, "(add x:8 (not y:8))", 4)
	if n, _ := b.Node(3); n.Args[0] != 0 {
		t.Error(n)
	}
	if nodes := g.Nodes(3); nodes[0].Args[0] != 0 {
		t.Error(nodes)
	}
}

// TestLong checks the limits of Term and Best (P39.2, P39.4).
func TestLong(t *testing.T) {
	g := egraph.New()
	id := variable(t, g, "x")
	for depth := 2; depth <= 66; depth++ {
		id = add(t, g, api.OpNot, id)
		b := run(t, g, cost.Uniform())
		want := api.OK
		if depth > api.MaxDepth {
			want = api.ErrLong
		}
		x, e := b.Term(id)
		if e != want || b.Cost(id) != int64(depth) || b.Size(id) != depth || (e == api.OK) != (term.Check(x) == api.OK) {
			t.Fatalf("depth %d: %d, %d, %d", depth, e, b.Cost(id), b.Size(id))
		}
		if y, n, code := treebest.Best(g, cost.Uniform(), id); code != want || !term.Same(y, x) || e != api.OK && n != 0 || e == api.OK && n != int64(depth) {
			t.Fatalf("depth %d: Best is %d, %d", depth, n, code)
		}
	}
	g = egraph.New()
	id = variable(t, g, "x")
	for range 11 {
		id = add(t, g, api.OpAdd, id, id)
	}
	for size := 4095; size <= 4098; size++ {
		b := run(t, g, cost.Uniform())
		want := api.OK
		if size > api.MaxSize {
			want = api.ErrLong
		}
		if x, e := b.Term(id); e != want || b.Cost(id) != int64(size) || b.Size(id) != min(size, 4097) || (e == api.OK) != (term.Check(x) == api.OK) {
			t.Fatalf("size %d: %d, %d, %d", size, e, b.Cost(id), b.Size(id))
		}
		id = add(t, g, api.OpNot, id)
	}
}

// TestInfinite checks P39.2 for costs near Infinite.
func TestInfinite(t *testing.T) {
	g := egraph.New()
	ids := []int{variable(t, g, "x")}
	for k := range 130 {
		ids = append(ids, add(t, g, api.OpAdd, ids[k], ids[k]))
	}
	b := run(t, g, cost.Uniform())
	for k, id := range ids {
		want, size := int64(api.Infinite), api.MaxSize+1
		if k < 61 {
			want = 1<<(k+1) - 1
		} else if k == 61 {
			want = api.Infinite - 1
		}
		if want < int64(size) {
			size = int(want)
		}
		n, ok := b.Node(id)
		if b.Cost(id) != want || b.Size(id) != size || !ok || k > 0 && !slices.Equal(n.Args, []int{ids[k-1], ids[k-1]}) {
			t.Errorf("level %d: %d, %d, %v", k, b.Cost(id), b.Size(id), n)
		}
		if _, e := b.Term(id); (e == api.ErrLong) != (k > 11) {
			t.Errorf("level %d: %d", k, e)
		}
	}
	if l := b.Choices(ids[130]); len(l) != 131 {
		t.Error(len(l))
	}
	// One further node reaches Infinite exactly, and two exceed it.
	one := add(t, g, api.OpNot, ids[61])
	two := add(t, g, api.OpNot, one)
	b = run(t, g, cost.Uniform())
	if b.Cost(one) != api.Infinite || b.Cost(two) != api.Infinite {
		t.Error(b.Cost(one), b.Cost(two))
	}
}

// TestInfiniteCycles checks that Node leads to no cycle for classes whose least cost is Infinite (P39.2).
func TestInfiniteCycles(t *testing.T) {
	r := rand.New(rand.NewPCG(39, 2))
	costly := cost.Uniform()
	costly[api.OpAdd] = api.MaxCost // so that some sizes are still exact
	for range 200 {
		g := egraph.New()
		id := variable(t, g, "x")
		var large []int
		for k := range 70 {
			id = add(t, g, api.OpAdd, id, id)
			if k > 61 {
				large = append(large, id)
			}
		}
		for range 1 + r.IntN(8) {
			arg := func() int { return large[r.IntN(len(large))] }
			id := add(t, g, api.OpNot, arg())
			if r.IntN(2) == 0 {
				id = add(t, g, api.OpMul, arg(), arg())
			}
			if r.IntN(3) > 0 {
				join(t, g, id, arg())
			}
			large = append(large, id)
		}
		for _, c := range []api.Costs{cost.Uniform(), costly} {
			b := run(t, g, c)
			for _, id := range large {
				if b.Cost(id) != api.Infinite || b.Size(id) != api.MaxSize+1 || !acyclic(b, id) {
					t.Fatalf("the node of %d leads to a cycle in %v", id, g.Dump())
				}
			}
		}
	}
}

// acyclic reports whether the nodes of a table lead from an id to no cycle.
func acyclic(b *treebest.Table, id int) bool {
	state := map[int]int{} // 1 is open, 2 is done
	var visit func(class int) bool
	visit = func(class int) bool {
		if state[class] > 0 {
			return state[class] == 2
		}
		state[class] = 1
		n, ok := b.Node(class)
		for _, arg := range n.Args {
			if !visit(arg) {
				return false
			}
		}
		state[class] = 2
		return ok
	}
	return visit(id)
}

// TestHuge checks that terms far beyond MaxSize are compared (P39.1): their sizes and their order are exact.
func TestHuge(t *testing.T) {
	g := egraph.New()
	x, y := variable(t, g, "y"), variable(t, g, "x")
	for range 50 {
		x, y = add(t, g, api.OpAdd, x, x), add(t, g, api.OpAdd, y, y)
	}
	a, b := add(t, g, api.OpSub, x, y), add(t, g, api.OpSub, y, x)
	join(t, g, a, b)
	longer := add(t, g, api.OpAnd, add(t, g, api.OpNot, y), y)
	shorter := add(t, g, api.OpXor, x, y)
	join(t, g, longer, shorter)
	table := run(t, g, cost.Uniform())
	if n, _ := table.Node(a); !slices.Equal(n.Args, []int{y, x}) {
		t.Error(n)
	}
	if n, _ := table.Node(longer); n.Op != api.OpXor || table.Cost(longer) != 1<<52-1 {
		t.Error(n, table.Cost(longer))
	}
	var c api.Costs
	c[api.OpXor] = 2 // as costly as the other one, but smaller
	table = run(t, g, c)
	if n, _ := table.Node(longer); n.Op != api.OpXor || table.Cost(longer) != 1<<52 {
		t.Error(n, table.Cost(longer))
	}
	c[api.OpXor] = 3
	table = run(t, g, c)
	if n, _ := table.Node(longer); n.Op != api.OpAnd || table.Cost(longer) != 1<<52 {
		t.Error(n, table.Cost(longer))
	}
}

// TestMany checks Run for e-graphs with as many nodes as possible, in which many terms differ only deep inside.
func TestMany(t *testing.T) {
	g := egraph.New()
	x, y := variable(t, g, "x"), variable(t, g, "y")
	var sums []int
	for g.Len()+4 <= api.MaxNodes {
		x, y = add(t, g, api.OpNot, x), add(t, g, api.OpNot, y)
		a, b := add(t, g, api.OpAdd, y, x), add(t, g, api.OpAdd, x, y)
		join(t, g, a, b)
		sums = append(sums, a)
	}
	b := run(t, g, cost.Uniform())
	for k, id := range sums {
		n, ok := b.Node(id)
		if !ok || b.Cost(id) != int64(2*k+5) || n.Args[0] > n.Args[1] {
			t.Fatalf("%d: %v, %d", k, n, b.Cost(id))
		}
	}
	if n := len(b.Choices(sums...)); n != g.Count() {
		t.Error(n, g.Count())
	}
	// One class has all nodes.
	g = egraph.New()
	for k := range 30000 {
		join(t, g, 0, variable(t, g, "v"+strconv.Itoa(100000-k)))
	}
	for k := range 30000 {
		id, e := g.Add(api.Node{Op: api.OpConst, Width: 32, Val: uint64(k)})
		if e != api.OK {
			t.Fatal(e)
		}
		join(t, g, 30000, id)
	}
	b = run(t, g, cost.Uniform())
	check(t, b, 29999, "v100000:8", 1)
	check(t, b, 59999, "0:32", 1)
}
