package treebest_test

import (
	"math/rand/v2"
	"slices"
	"testing"

	"saturate/api"
	"saturate/cost"
	"saturate/egraph"
	"saturate/hashcons"
	"saturate/represent"
	"saturate/term"
	"saturate/termtext"
	"saturate/treebest"
)

// better reports whether a term is a better one than another one (chapter 39).
func better(c api.Costs, a, b api.Term) bool {
	if x, y := cost.Tree(c, a), cost.Tree(c, b); x != y {
		return x < y
	}
	return term.Compare(a, b) < 0
}

// naive improves the terms of all classes until it is of no avail.
func naive(g *egraph.Graph, c api.Costs) map[int]api.Term {
	best := map[int]api.Term{}
	for changed := true; changed; {
		changed = false
		for _, class := range g.Classes() {
			for _, n := range g.Nodes(class) {
				x := api.Term{Op: n.Op, Width: n.Width, Val: n.Val, Name: n.Name}
				for _, arg := range n.Args {
					if operand, ok := best[arg]; ok {
						x.Args = append(x.Args, operand)
					}
				}
				known, ok := best[class]
				if len(x.Args) == len(n.Args) && (!ok || better(c, x, known)) {
					best[class] = x
					changed = true
				}
			}
		}
	}
	return best
}

// randomGraph returns a rebuilt e-graph in which many terms are equal, whatever their values are.
func randomGraph(t *testing.T, r *rand.Rand) *egraph.Graph {
	t.Helper()
	g := egraph.New()
	for _, name := range []string{"b", "a"} {
		variable(t, g, name)
	}
	size := 4 + r.IntN(30)
	for g.Len() < size {
		arg := func() int { return r.IntN(g.Len()) }
		switch r.IntN(6) {
		case 0:
			if _, e := g.Add(api.Node{Op: api.OpConst, Width: 8, Val: r.Uint64N(40)}); e != api.OK {
				t.Fatal(e)
			}
		case 1:
			add(t, g, api.OpNot, arg())
		case 2:
			add(t, g, api.OpNeg, arg())
		case 3:
			add(t, g, api.OpShl, arg(), arg())
		default:
			add(t, g, api.OpAdd, arg(), arg())
		}
		for r.IntN(4) == 0 {
			join(t, g, arg(), arg())
		}
	}
	g.Rebuild()
	return g
}

// randomCosts returns a model with small costs, which are often equal.
func randomCosts(r *rand.Rand) api.Costs {
	var c api.Costs
	for op := range c {
		c[op] = 1 + r.Int64N(4)*r.Int64N(2)
	}
	return c
}

// TestBest checks P39.1 to P39.5 for random e-graphs.
func TestBest(t *testing.T) {
	r := rand.New(rand.NewPCG(39, 1))
	for range 500 {
		g, c := randomGraph(t, r), randomCosts(r)
		before := g.Dump()
		b := run(t, g, c)
		best := naive(g, c)
		for id := range g.Len() {
			want := best[g.Find(id)]
			wantCost, wantSize := cost.Tree(c, want), term.Size(want)
			if b.Cost(id) != wantCost || b.Size(id) != wantSize {
				t.Fatalf("%d has the cost %d and the size %d, not %d and %d in %v", id, b.Cost(id), b.Size(id), wantCost, wantSize, before)
			}
			x, e := b.Term(id)
			y, n, code := treebest.Best(g, c, id)
			if e != api.OK || !term.Same(x, want) || code != api.OK || !term.Same(y, want) || n != wantCost {
				t.Fatalf("%d has %s, %d, not %s in %v", id, termtext.Print(x), e, termtext.Print(want), before)
			}
			if !represent.Has(g, id, x) {
				t.Fatalf("%s is not represented by %d in %v", termtext.Print(x), id, before)
			}
			checkOperands(t, g, b, id, x)
		}
		checkAll(t, g, c, b)
		if after := g.Dump(); !slices.EqualFunc(after.Nodes, before.Nodes, hashcons.Same) || !slices.Equal(after.Roots, before.Roots) || !slices.Equal(after.Links, before.Links) {
			t.Fatal("the e-graph is changed")
		}
	}
}

// checkOperands checks that the node of an id is one of its class, and that the operands of its best term are the best terms of the Args (P39.5).
func checkOperands(t *testing.T, g *egraph.Graph, b *treebest.Table, id int, x api.Term) {
	t.Helper()
	n, ok := b.Node(id)
	if !ok || !slices.ContainsFunc(g.Nodes(id), func(m api.Node) bool { return hashcons.Same(m, n) }) {
		t.Fatalf("%v is no node of %d", n, id)
	}
	for k, arg := range n.Args {
		if y, e := b.Term(arg); e != api.OK || !term.Same(y, x.Args[k]) {
			t.Fatalf("operand %d of %s is not the best term of %d", k, termtext.Print(x), arg)
		}
	}
}

// checkAll checks that no represented term is better than the best one (P39.5), and Choices (P39.3).
func checkAll(t *testing.T, g *egraph.Graph, c api.Costs, b *treebest.Table) {
	t.Helper()
	for _, class := range g.Classes() {
		x, e := b.Term(class)
		if e != api.OK {
			continue
		}
		l, _ := represent.Terms(g, class, 12, 200)
		for _, y := range l {
			if better(c, y, x) {
				t.Fatalf("%s is better than %s", termtext.Print(y), termtext.Print(x))
			}
		}
		var classes []int
		for _, sub := range term.Subterms(x) {
			id, _ := represent.Find(g, sub)
			classes = append(classes, id)
		}
		slices.Sort(classes)
		choices := b.Choices(class, class, -1)
		for k, choice := range choices {
			n, _ := b.Node(choice.Class)
			if k >= len(classes) || choice.Class != classes[k] || !hashcons.Same(choice.Node, n) {
				t.Fatalf("the choices of %d are %v, not those of %v", class, choices, classes)
			}
		}
		if len(choices) != len(classes) {
			t.Fatalf("the choices of %d are %v, not those of %v", class, choices, classes)
		}
	}
}
