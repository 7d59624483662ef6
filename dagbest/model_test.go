package dagbest_test

import (
	"math/rand/v2"
	"slices"
	"strconv"
	"testing"

	"saturate/api"
	"saturate/cost"
	"saturate/dagbest"
	"saturate/egraph"
	"saturate/encode"
	"saturate/hashcons"
	"saturate/ilp"
	"saturate/represent"
	"saturate/selection"
)

// solve does what P43.3 says. It returns the last selection and the rows.
func solve(t *testing.T, g *egraph.Graph, c api.Costs, roots []int) ([]api.Choice, []api.Row) {
	t.Helper()
	p, vars, e := encode.Problem(g, c, roots)
	if e != api.OK {
		t.Fatal(e)
	}
	var cuts []api.Row
	for {
		x, _, e := ilp.Solve(p)
		if e != api.OK {
			t.Fatal(e)
		}
		l := encode.Read(vars, x)
		cycle := selection.Cycle(g, roots, l)
		if len(cycle) == 0 {
			return l, cuts
		}
		row, ok := encode.Cut(g, vars, l, cycle)
		if !ok {
			t.Fatal(cycle)
		}
		cuts = append(cuts, row)
		p.Rows = append(p.Rows, row)
	}
}

// least returns the least cost of an acyclic selection, by trying all of them.
func least(g *egraph.Graph, c api.Costs, roots []int) int64 {
	best := int64(api.Infinite)
	nodes := map[int]api.Node{} // by class
	var try func(needed []int, price int64)
	try = func(needed []int, price int64) {
		for len(needed) > 0 {
			if _, chosen := nodes[g.Find(needed[0])]; !chosen {
				break
			}
			needed = needed[1:]
		}
		if price >= best || len(needed) == 0 && isCyclic(nodes) {
			return
		}
		if len(needed) == 0 {
			best = price
			return
		}
		class := g.Find(needed[0])
		for _, n := range g.Nodes(class) {
			nodes[class] = n
			try(slices.Concat(needed[1:], n.Args), price+cost.Node(c, n.Op))
		}
		delete(nodes, class)
	}
	try(roots, 0)
	return best
}

// isCyclic reports whether nodes lead back to their classes.
func isCyclic(nodes map[int]api.Node) bool {
	left := map[int]bool{}
	for class := range nodes {
		left[class] = true
	}
	for again := true; again; {
		again = false
		for class := range left {
			if !slices.ContainsFunc(nodes[class].Args, func(arg int) bool { return left[arg] }) {
				delete(left, class)
				again = true
			}
		}
	}
	return len(left) > 0
}

// node returns a node of width 8 with random Args.
func node(r *rand.Rand, unary int, arg func() int) api.Node {
	if r.IntN(10) < unary {
		return api.Node{Op: []api.Op{api.OpNot, api.OpNeg}[r.IntN(2)], Width: 8, Args: []int{arg()}}
	}
	return api.Node{Op: []api.Op{api.OpAdd, api.OpMul, api.OpAnd, api.OpUdiv}[r.IntN(4)], Width: 8, Args: []int{arg(), arg()}}
}

// randomGraph returns a rebuilt e-graph in which many ids are joined, so that nodes often lead back to their classes.
func randomGraph(t *testing.T, r *rand.Rand, size int) *egraph.Graph {
	t.Helper()
	g := egraph.New()
	for k := range 1 + r.IntN(4) {
		add(t, g, "x"+strconv.Itoa(k)+":8")
	}
	unary := r.IntN(11)
	for g.Len() < size {
		if _, e := g.Add(node(r, unary, func() int { return r.IntN(g.Len()) })); e != api.OK {
			t.Fatal(e)
		}
	}
	for range r.IntN(size) {
		join(t, g, r.IntN(size), r.IntN(size))
	}
	g.Rebuild()
	return g
}

// randomCosts returns costs. With those of variables cycles can be cheaper than all other ways.
func randomCosts(r *rand.Rand) api.Costs {
	var c api.Costs
	for k := range c {
		c[k] = 1 + r.Int64N([]int64{1, 3, 10}[r.IntN(3)])
	}
	c[api.OpVar] = []int64{1, 10, 100, 1000}[r.IntN(4)]
	return c
}

func randomRoots(r *rand.Rand, g *egraph.Graph) []int {
	var roots []int
	for range 1 + r.IntN(3) {
		roots = append(roots, r.IntN(g.Len()))
	}
	return roots
}

// TestLeast checks P43.1 to P43.4 for random e-graphs whose selections can all be tried.
func TestLeast(t *testing.T) {
	r := rand.New(rand.NewPCG(43, 1))
	cycles, gains, lists := 0, 0, 0
	for range 2500 {
		g, c := randomGraph(t, r, 5+r.IntN(14)), randomCosts(r)
		roots := randomRoots(r, g)
		cycles += len(checkAll(t, g, c, roots))
		greedy, total, _ := dagbest.Compare(g, c, roots)
		if want := least(g, c, roots); total != want {
			t.Fatalf("%v: %d, not %d in %v", roots, total, want, g.Dump())
		}
		if total < greedy {
			gains++
		}
		for range 5 {
			price, ok := randomPrice(t, r, g, c, roots)
			if ok && price < total {
				t.Fatalf("%v: %d, not %d in %v", roots, total, price, g.Dump())
			}
			if ok {
				lists++
			}
		}
	}
	if cycles < 500 || gains < 50 || lists < 3000 {
		t.Error(cycles, gains, lists)
	}
}

// randomPrice returns the shared cost of a list of terms that the classes of roots represent, and whether they use one node for each class.
func randomPrice(t *testing.T, r *rand.Rand, g *egraph.Graph, c api.Costs, roots []int) (int64, bool) {
	t.Helper()
	nodes := map[int]api.Node{} // by class
	var list []api.Term
	for _, root := range roots {
		l, e := represent.Terms(g, root, 7, 20)
		if e != api.OK {
			t.Fatal(e)
		}
		if len(l) == 0 {
			return 0, false
		}
		x := l[r.IntN(len(l))]
		choices, ok := selection.Of(g, x)
		if !ok {
			return 0, false
		}
		for _, choice := range choices {
			if n, chosen := nodes[choice.Class]; chosen && !hashcons.Same(n, choice.Node) {
				return 0, false
			}
			nodes[choice.Class] = choice.Node
		}
		list = append(list, x)
	}
	return cost.Dag(c, list...), true
}

// TestTangled checks P43.1 to P43.4 for larger e-graphs, except that the cost is least: P43.3 tells which selection Run returns.
func TestTangled(t *testing.T) {
	r := rand.New(rand.NewPCG(43, 2))
	most := 0
	for range 400 {
		g, c := randomGraph(t, r, 20+r.IntN(45)), randomCosts(r)
		roots := randomRoots(r, g)
		if _, e := encode.Vars(g, roots); e == api.OK {
			most = max(most, len(checkAll(t, g, c, roots)))
		}
	}
	if most < 20 {
		t.Error(most)
	}
}

// ring returns a rebuilt e-graph of classes in a ring. Each has a variable, and nodes with each of the operators whose Args are in the next class.
func ring(t *testing.T, classes int, ops ...api.Op) *egraph.Graph {
	t.Helper()
	g := egraph.New()
	for k := range classes {
		add(t, g, "x"+strconv.Itoa(k)+":8")
	}
	for k := range classes {
		for _, op := range ops {
			args := []int{(k + 1) % classes}
			if op != api.OpNot && op != api.OpNeg {
				args = append(args, args[0])
			}
			id, e := g.Add(api.Node{Op: op, Width: 8, Args: args})
			if e != api.OK {
				t.Fatal(e)
			}
			join(t, g, k, id)
		}
	}
	g.Rebuild()
	return g
}

// TestRing checks that Run finds the least selection although it has to exclude very many cycles, all of which are cheaper (P43.1).
func TestRing(t *testing.T) {
	c := priced(map[api.Op]int64{api.OpVar: 1000})
	for classes := 2; classes <= api.MaxVars/3; classes++ {
		g := ring(t, classes, api.OpNot, api.OpNeg)
		l, total, e := dagbest.Run(g, c, []int{0})
		if e != api.OK || total != 1000 || len(l) != 1 || l[0].Node.Op != api.OpVar {
			t.Errorf("%d classes: %v, %d, %d", classes, l, total, e)
		}
		// One of all variables is enough, in any class.
		var roots []int
		for k := range classes {
			roots = append(roots, k)
		}
		l, total, e = dagbest.Run(g, c, roots)
		if e != api.OK || total != int64(999+classes) || len(l) != classes {
			t.Errorf("%d classes: %v, %d, %d", classes, l, total, e)
		}
		if classes > 7 {
			continue
		}
		if rows := checkAll(t, g, c, []int{0}); len(rows) != 1<<classes {
			t.Errorf("%d classes: %d cycles", classes, len(rows))
		}
		checkAll(t, g, c, roots)
	}
}

// TestCutsLimit checks that Cuts ends where the rows are too many for ilp.Solve (P43.3), and that Run does not.
func TestCutsLimit(t *testing.T) {
	ops := []api.Op{api.OpNot, api.OpNeg, api.OpAnd, api.OpOr, api.OpXor, api.OpAdd, api.OpSub, api.OpMul, api.OpUdiv, api.OpUrem}
	g := ring(t, 3, ops...)
	c := priced(map[api.Op]int64{api.OpVar: 1000})
	p, _, _ := encode.Problem(g, c, []int{0})
	rows, e := dagbest.Cuts(g, c, []int{0})
	if e != api.OK || len(p.Rows)+len(rows) != api.MaxRows+1 {
		t.Error(len(p.Rows), len(rows), e)
	}
	for _, r := range rows {
		if len(r.Coefs) != 3 || r.Least != -2 {
			t.Fatal(r)
		}
	}
	if l, total, e := dagbest.Run(g, c, []int{0}); e != api.OK || total != 1000 || len(l) != 1 {
		t.Error(l, total, e)
	}
}

// denseGraph returns a rebuilt e-graph of 64 nodes, in which most classes lead to most others.
func denseGraph(t *testing.T, r *rand.Rand) *egraph.Graph {
	t.Helper()
	g := egraph.New()
	leaves := 1 + r.IntN(6)
	for k := range leaves {
		add(t, g, "x"+strconv.Itoa(k)+":8")
	}
	classes, unary := leaves+2+r.IntN(30), r.IntN(11)
	for tries := 0; g.Len() < api.MaxVars && tries < 1000; tries++ {
		known := min(g.Len(), classes)
		n := node(r, unary, func() int { return r.IntN(known) })
		if _, ok := g.Lookup(n); ok {
			continue
		}
		id, e := g.Add(n)
		if e != api.OK {
			t.Fatal(e)
		}
		if id >= classes {
			join(t, g, id, r.IntN(classes))
		}
	}
	g.Rebuild()
	return g
}

// TestDense checks that Run ends soon, with a selection that is no worse than another one, where cycles are so many that they cannot be excluded one by one (P43.1, P43.4).
func TestDense(t *testing.T) {
	r := rand.New(rand.NewPCG(43, 3))
	large, gains := 0, 0
	for range 100 {
		g, c := denseGraph(t, r), randomCosts(r)
		roots := randomRoots(r, g)
		vars, e := encode.Vars(g, roots)
		if e != api.OK {
			t.Fatal(e)
		}
		l, total, e := dagbest.Run(g, c, roots)
		if price, code := selection.Cost(g, c, roots, l); e != api.OK || code != api.OK || price != total {
			t.Fatalf("%v: %v, %d, %d, %d in %v", roots, l, total, price, e, g.Dump())
		}
		greedy, least, e := dagbest.Compare(g, c, roots)
		if e != api.OK || least != total || greedy < least {
			t.Fatalf("%v: %d, %d, %d, %d in %v", roots, greedy, least, total, e, g.Dump())
		}
		if len(vars) >= 50 {
			large++
		}
		if least < greedy {
			gains++
		}
	}
	if large < 40 || gains < 15 {
		t.Error(large, gains)
	}
}
