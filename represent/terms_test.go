package represent_test

import (
	"math"
	"math/big"
	"math/rand/v2"
	"slices"
	"testing"

	"saturate/api"
	"saturate/egraph"
	"saturate/represent"
	"saturate/term"
	"saturate/termtext"
)

// randomGraph returns an e-graph that is not dirty, with terms of the widths 1, 2 and 4 and few classes.
func randomGraph(r *rand.Rand, nodes, joins int) *egraph.Graph {
	g := egraph.New()
	for range nodes {
		arg := func() int { return r.IntN(g.Len() + 1) }
		op := api.Op(1 + r.IntN(23))
		n := api.Node{Op: op, Width: []int{1, 2, 2, 2, 4}[r.IntN(5)]}
		switch op {
		case api.OpVar:
			n.Name = []string{"a", "b", "c"}[r.IntN(3)]
		case api.OpConst:
			n.Val = r.Uint64N(4)
		case api.OpNot, api.OpNeg, api.OpZext, api.OpSext:
			n.Args = []int{arg()}
		case api.OpExtract:
			n.Args, n.Val = []int{arg()}, r.Uint64N(3)
		case api.OpIte:
			n.Args = []int{arg(), arg(), arg()}
		default:
			n.Args = []int{arg(), arg()}
		}
		g.Add(n)
	}
	for range joins {
		g.Union(r.IntN(g.Len()+1), r.IntN(g.Len()+1), 0)
	}
	g.Rebuild()
	return g
}

// represents reports whether the class of an id represents t, by the definition.
func represents(g *egraph.Graph, id int, t api.Term) bool {
	for _, n := range g.Nodes(id) {
		if n.Op != t.Op || n.Width != t.Width || n.Val != t.Val || n.Name != t.Name || len(n.Args) != len(t.Args) {
			continue
		}
		all := true
		for i, arg := range n.Args {
			all = all && represents(g, arg, t.Args[i])
		}
		if all {
			return true
		}
	}
	return false
}

// model has all terms that the classes of an e-graph represent, by class and size.
type model map[int][][]api.Term

// newModel collects the terms up to a size.
func newModel(g *egraph.Graph, size int) model {
	m := model{}
	for s := range size + 1 {
		for _, class := range g.Classes() {
			var l []api.Term
			for _, n := range g.Nodes(class) {
				for _, args := range m.lists(n.Args, s-1) {
					l = append(l, api.Term{Op: n.Op, Width: n.Width, Val: n.Val, Name: n.Name, Args: args})
				}
			}
			slices.SortFunc(l, term.Compare)
			m[class] = append(m[class], l)
		}
	}
	return m
}

// lists returns the lists of terms of classes whose sizes sum up to total.
func (m model) lists(classes []int, total int) [][]api.Term {
	if len(classes) == 0 {
		if total == 0 {
			return [][]api.Term{nil}
		}
		return nil
	}
	var all [][]api.Term
	for size := 1; size <= total; size++ {
		rests := m.lists(classes[1:], total-size)
		for _, t := range m[classes[0]][size] {
			for _, rest := range rests {
				all = append(all, append([]api.Term{t}, rest...))
			}
		}
	}
	return all
}

// upTo returns the terms of a class up to a size in their order.
func (m model) upTo(class, size int) []api.Term {
	return slices.Concat(m[class][:size+1]...)
}

// TestRandom checks P19.2, P19.4 and P19.5 for random e-graphs.
func TestRandom(t *testing.T) {
	const greatest = 6
	for seed := range uint64(150) {
		r := rand.New(rand.NewPCG(seed, 19))
		g := randomGraph(r, 6+r.IntN(30), r.IntN(12))
		m := newModel(g, greatest)
		owner := map[string]int{}
		for id := range g.Len() {
			class := g.Find(id)
			for size := range greatest + 1 {
				checkTerms(t, g, id, size, r.IntN(30), m.upTo(class, size))
			}
			for _, x := range m.upTo(class, 5) {
				if at, ok := represent.Find(g, x); at != class || !ok || !represent.Has(g, id, x) || x.Width != g.Width(id) || !represents(g, id, x) {
					t.Fatalf("seed %d: class %d represents %s: Find is %d, %v", seed, class, termtext.Print(x), at, ok)
				}
				if other, seen := owner[termtext.Print(x)]; seen && other != class {
					t.Fatalf("seed %d: the classes %d and %d represent %s", seed, class, other, termtext.Print(x))
				}
				owner[termtext.Print(x)] = class
			}
			x, e := represent.Term(g, id)
			if e != api.OK || !represents(g, id, x) || !represent.Has(g, id, x) {
				t.Fatalf("seed %d: the original term of %d is %v, %d", seed, id, x, e)
			}
		}
		for text, class := range owner {
			id := r.IntN(g.Len())
			x := read(t, text)
			if represent.Has(g, id, x) != (g.Find(id) == class) || represents(g, id, x) != (g.Find(id) == class) {
				t.Fatalf("seed %d: %s is in class %d, and Has(%d) is %v", seed, text, class, id, represent.Has(g, id, x))
			}
		}
	}
}

// checkTerms checks Count and Terms for the terms of a class up to a size.
func checkTerms(t *testing.T, g *egraph.Graph, id, size, most int, want []api.Term) {
	t.Helper()
	if n, e := represent.Count(g, id, size); n != int64(len(want)) || e != api.OK {
		t.Fatalf("Count(%d, %d) of %v is %d, %d, not %d", id, size, g.Dump(), n, e, len(want))
	}
	for _, most := range []int{0, 1, most, 1000} {
		some := want[:min(most, len(want))]
		if l, e := represent.Terms(g, id, size, most); e != api.OK || !slices.EqualFunc(l, some, term.Same) {
			t.Fatalf("Terms(%d, %d, %d) of %v is %v, %d, not %v", id, size, most, g.Dump(), l, e, some)
		}
	}
}

// TestTermsErrors checks the errors of P19.4, and their order.
func TestTermsErrors(t *testing.T) {
	check := func(g *egraph.Graph, id int, want api.Errno) {
		t.Helper()
		if l, e := represent.Terms(g, id, 12, 1000); len(l) != 0 || e != want {
			t.Errorf("Terms(%d): %v, %d, not %d", id, l, e, want)
		}
		if n, e := represent.Count(g, id, 64); n != 0 || e != want {
			t.Errorf("Count(%d): %d, %d, not %d", id, n, e, want)
		}
	}
	for _, g := range unusable(t) {
		check(g, 0, api.ErrNil)
		check(g, -1, api.ErrNil)
	}
	g := egraph.New()
	check(g, 0, api.ErrRange)
	mustAdd(t, g, "(not x:8)")
	for _, id := range []int{-1, 2, math.MinInt, math.MaxInt} {
		check(g, id, api.ErrRange)
	}
	g.Union(0, 1, 0)
	check(g, 0, api.ErrDirty)
	check(g, -1, api.ErrDirty)
}

// TestClamped checks the limits of P19.4 in a class of the terms x, (not x), (not (not x)) and so on, and of many vars.
func TestClamped(t *testing.T) {
	g := egraph.New()
	x := mustAdd(t, g, "x:8")
	g.Union(x, addChain(t, g, x, 1), 0)
	g.Rebuild()
	for _, c := range []struct {
		size  int
		count int64
		terms int
	}{{math.MinInt, 0, 0}, {-1, 0, 0}, {0, 0, 0}, {1, 1, 1}, {11, 11, 11}, {12, 12, 12}, {13, 13, 12}, {63, 63, 12}, {64, 64, 12}, {65, 64, 12}, {math.MaxInt, 64, 12}} {
		if n, e := represent.Count(g, x, c.size); n != c.count || e != api.OK {
			t.Errorf("Count with size %d is %d, %d, not %d", c.size, n, e, c.count)
		}
		if l, e := represent.Terms(g, x, c.size, 1000); len(l) != c.terms || e != api.OK {
			t.Errorf("Terms with size %d is %v, %d", c.size, l, e)
		}
	}
	for _, c := range []struct{ most, terms int }{{math.MinInt, 0}, {-1, 0}, {0, 0}, {1, 1}, {11, 11}, {math.MaxInt, 12}} {
		l, e := represent.Terms(g, x, 12, c.most)
		if len(l) != c.terms || e != api.OK {
			t.Errorf("the first %d terms: %v, %d", c.most, l, e)
		}
		for i, y := range l {
			if !term.Same(y, chain(i+1)) {
				t.Errorf("term %d is %s", i, termtext.Print(y))
			}
		}
	}
	g = egraph.New()
	manyVars(t, g, 1500)
	for id := range g.Len() - 1 {
		g.Union(id, id+1, 0)
	}
	g.Rebuild()
	for _, most := range []int{999, 1000, 1001, math.MaxInt} {
		if l, e := represent.Terms(g, 1499, 3, most); len(l) != min(most, 1000) || e != api.OK || l[0].Name != "v0" || l[2].Name != "v10" || l[998].Name != "v547" {
			t.Errorf("the first %d of many terms: %d, %d", most, len(l), e)
		}
	}
	if n, e := represent.Count(g, 7, 1); n != 1500 || e != api.OK {
		t.Error(n, e)
	}
}

// TestInfinite checks that Count does not exceed Infinite, and is exact below it (P19.4): for all binary trees, with several kinds of leaves and inner nodes.
func TestInfinite(t *testing.T) {
	for leaves := 1; leaves <= 9; leaves++ {
		for inner := 1; inner <= 6; inner++ {
			g := egraph.New()
			manyVars(t, g, leaves)
			for op := range api.Op(inner) {
				mustAddNode(t, g, api.Node{Op: api.OpAnd + op, Width: 8, Args: []int{0, 0}})
			}
			for id := range g.Len() - 1 {
				g.Union(id, id+1, 0)
			}
			g.Rebuild()
			checkTrees(t, g, int64(leaves), int64(inner))
		}
	}
}

// checkTrees checks Count for an e-graph with one class.
func checkTrees(t *testing.T, g *egraph.Graph, leaves, inner int64) {
	t.Helper()
	infinite := big.NewInt(api.Infinite)
	sum := new(big.Int)
	bySize := []*big.Int{new(big.Int)}
	for size := 1; size <= 64; size++ {
		n := new(big.Int)
		for k := range max(size-1, 0) {
			n.Add(n, new(big.Int).Mul(bySize[k], bySize[size-1-k]))
		}
		n.Mul(n, big.NewInt(inner))
		if size == 1 {
			n.SetInt64(leaves)
		}
		bySize = append(bySize, n)
		sum.Add(sum, n)
		want := sum
		if sum.Cmp(infinite) > 0 {
			want = infinite
		}
		if n, e := represent.Count(g, 0, size); n != want.Int64() || e != api.OK {
			t.Errorf("Count with size %d, for %d leaves and %d inner nodes, is %d, %d, not %d", size, leaves, inner, n, e, want)
		}
	}
	if bySize[11].Cmp(infinite) > 0 || bySize[63].Cmp(infinite) < 0 && leaves*inner > 1 {
		t.Error("the numbers are too small or too great")
	}
}

// tower returns a class that represents n^(2^levels) terms of a single size.
func tower(t *testing.T, g *egraph.Graph, op api.Op, first, n, levels int) int {
	for id := first; id < first+n-1; id++ {
		g.Union(id, id+1, 0)
	}
	id := first
	for range levels {
		id = mustAddNode(t, g, api.Node{Op: op, Width: 8, Args: []int{id, id}})
	}
	return id
}

// TestProducts checks Count for single products below and above Infinite (P19.4).
func TestProducts(t *testing.T) {
	for n := 2; n <= 20; n++ {
		for m := 2; m <= 20; m++ {
			g := egraph.New()
			manyVars(t, g, n+m)
			a, b := tower(t, g, api.OpAdd, 0, n, 4), tower(t, g, api.OpSub, n, m, 3)
			root := mustAddNode(t, g, api.Node{Op: api.OpXor, Width: 8, Args: []int{a, b}})
			g.Rebuild()
			want := new(big.Int).Exp(big.NewInt(int64(n)), big.NewInt(16), nil)
			want.Mul(want, new(big.Int).Exp(big.NewInt(int64(m)), big.NewInt(8), nil))
			if infinite := big.NewInt(api.Infinite); want.Cmp(infinite) > 0 {
				want = infinite
			}
			if count, e := represent.Count(g, root, 64); count != want.Int64() || e != api.OK {
				t.Errorf("%d^16 times %d^8 is %d, %d, not %d", n, m, count, e, want)
			}
		}
	}
}

// TestLarge checks P19.4 for e-graphs with very many terms, of which few are needed.
func TestLarge(t *testing.T) {
	const vars = 35
	g := egraph.New()
	manyVars(t, g, vars)
	for i := range vars {
		for k := range vars {
			mustAddNode(t, g, api.Node{Op: api.OpAdd, Width: 8, Args: []int{i, k}})
			test := mustAddNode(t, g, api.Node{Op: api.OpUlt, Width: 1, Args: []int{i, k}})
			for j := range vars {
				mustAddNode(t, g, api.Node{Op: api.OpIte, Width: 8, Args: []int{test, j, i}})
			}
		}
	}
	root := g.Find(g.Len() - 1)
	for id := vars; id < g.Len(); id++ {
		if g.Width(id) == 8 {
			g.Union(root, id, 0)
		}
	}
	g.Rebuild()
	if n, e := represent.Count(g, root, 6); e != api.OK || n != vars*vars+vars*vars*vars {
		t.Error(n, e)
	}
	l, e := represent.Terms(g, root, 12, 1000)
	if e != api.OK || len(l) != 1000 || !slices.IsSortedFunc(l, term.Compare) || termtext.Print(l[0]) != "(add v0:8 v0:8)" {
		t.Error(len(l), e)
	}
	for id := range vars {
		g.Union(root, id, 0)
	}
	g.Rebuild()
	if n, e := represent.Count(g, root, 64); e != api.OK || n != api.Infinite {
		t.Error(n, e)
	}
	l, e = represent.Terms(g, root, 12, 1000)
	if e != api.OK || len(l) != 1000 || termtext.Print(l[vars]) != "(add v0:8 v0:8)" || termtext.Print(l[999]) != "(add v33:8 v26:8)" {
		t.Error(len(l), e, termtext.Print(l[999]))
	}
}
