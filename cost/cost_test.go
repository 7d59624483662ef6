package cost_test

import (
	"fmt"
	"math"
	"math/big"
	"slices"
	"testing"

	"saturate/api"
	"saturate/cost"
	"saturate/enum"
	"saturate/opinfo"
	"saturate/term"
)

// costs returns a model in which all entries are different, and some out of range.
func costs() api.Costs {
	var c api.Costs
	for i := range c {
		c[i] = int64(i*i + 2)
	}
	c[api.OpMul], c[api.OpVar], c[api.OpNot], c[api.OpConcat], c[api.OpEq] = api.MaxCost, -7, 0, api.MaxCost+1, 1
	c[api.OpSub], c[api.OpNeg] = math.MinInt64, math.MaxInt64
	return c
}

// TestNode checks P10.1 for Node.
func TestNode(t *testing.T) {
	c := costs()
	for _, op := range opinfo.Ops() {
		want := c[op]
		switch op {
		case api.OpVar, api.OpNot, api.OpSub:
			want = 1
		case api.OpConcat, api.OpNeg:
			want = 1 << 20
		}
		if n := cost.Node(c, op); n != want {
			t.Errorf("%s costs %d, not %d", opinfo.Name(op), n, want)
		}
	}
	if cost.Node(c, api.OpMul) != 1<<20 || cost.Node(c, api.OpHole) != 578 || cost.Node(c, api.OpEval) != 678 {
		t.Error("the greatest cost, and patterns")
	}
	for _, op := range []api.Op{0, 27, 28, 31, 32, 33, -1, -31, 256 + api.OpMul, math.MaxInt, math.MinInt} {
		if n := cost.Node(c, op); n != 1 {
			t.Errorf("%d, which is no operator, costs %d", op, n)
		}
	}
}

// TestAdd checks P10.1 for Add.
func TestAdd(t *testing.T) {
	const inf = 1 << 62
	numbers := []int64{0, 1, 2, 5, -1, -2, -inf, math.MinInt64, math.MinInt64 + 1, 1 << 20, 1 << 61, 1<<61 + 1, 1<<61 - 1, inf - 2, inf - 1, inf, inf + 1, math.MaxInt64 - 1, math.MaxInt64}
	clamped := func(a int64) *big.Int { return big.NewInt(min(max(a, 0), inf)) }
	for _, a := range numbers {
		for _, b := range numbers {
			want := new(big.Int).Add(clamped(a), clamped(b))
			if want.Cmp(big.NewInt(inf)) > 0 {
				want = big.NewInt(inf)
			}
			if sum := cost.Add(a, b); sum != want.Int64() {
				t.Errorf("Add(%d, %d) is %d, not %v", a, b, sum, want)
			}
		}
	}
	if cost.Add(2, 3) != 5 || cost.Add(-5, 3) != 3 || cost.Add(inf-1, 1) != inf || cost.Add(inf-2, 1) != inf-1 {
		t.Error("examples")
	}
}

// TestUniform checks P10.1 for Uniform.
func TestUniform(t *testing.T) {
	c := cost.Uniform()
	for _, op := range opinfo.Ops() {
		if c[op] != 1 || cost.Node(c, op) != 1 {
			t.Errorf("%s costs %d", opinfo.Name(op), c[op])
		}
	}
}

// manyTerms returns terms, some of them not valid, with subterms that occur several times.
func manyTerms() []api.Term {
	g := api.Grammar{Vars: []api.Var{{Name: "x", Width: 2}, {Name: "y", Width: 1}}, Consts: []api.Word{{Width: 2, Val: 1}}, Size: 5, Most: 1500}
	for op := api.OpNot; op <= api.OpConcat; op++ {
		g.Ops = append(g.Ops, op)
	}
	terms, _ := enum.Terms(g)
	for i, t := range slices.Clone(terms) {
		if i%11 == 0 {
			u := terms[i*7%len(terms)]
			terms = append(terms, api.Term{Op: api.OpMul, Args: []api.Term{t, u, t}}, api.Term{Op: api.Op(i), Args: []api.Term{u, {Op: api.OpVar, Args: []api.Term{u, t}}}})
		}
	}
	return terms
}

// wantTree adds the costs of all nodes.
func wantTree(c api.Costs, t api.Term) int64 {
	sum := int64(0)
	for sub := range term.All(t) {
		sum += cost.Node(c, sub.Op)
	}
	return sum
}

// wantDag adds the costs of all different subterms.
func wantDag(c api.Costs, l ...api.Term) int64 {
	var seen []api.Term
	sum := int64(0)
	for _, t := range l {
		for sub := range term.All(t) {
			if !slices.ContainsFunc(seen, func(u api.Term) bool { return term.Same(u, sub) }) {
				seen = append(seen, sub)
				sum += cost.Node(c, sub.Op)
			}
		}
	}
	return sum
}

// TestTreeDag checks P10.2 and P10.3 for many terms.
func TestTreeDag(t *testing.T) {
	terms := manyTerms()
	shared := 0
	for _, c := range []api.Costs{cost.Uniform(), costs(), {}} {
		for i, u := range terms {
			tree, dag := cost.Tree(c, u), cost.Dag(c, u)
			if tree != wantTree(c, u) || dag != wantDag(c, u) {
				t.Fatalf("%v costs %d, %d, not %d, %d", u, tree, dag, wantTree(c, u), wantDag(c, u))
			}
			repeats := len(term.Subterms(u)) < term.Size(u)
			if dag > tree || (dag == tree) == repeats || dag < 1 {
				t.Fatalf("%v costs %d, %d", u, tree, dag)
			}
			if repeats {
				shared++
			}
			for _, arg := range u.Args {
				if cost.Tree(c, arg) >= tree || cost.Dag(c, arg) >= dag {
					t.Fatalf("an operand of %v costs as much", u)
				}
			}
			v, w := terms[i*5%len(terms)], terms[i*3%len(terms)]
			if n := wantDag(c, u, v, w); cost.Dag(c, u, v, w) != n || cost.Dag(c, w, u, v, u, w) != n || cost.Dag(c, v, v, w, u) != n {
				t.Fatalf("Dag of %v, %v, %v", u, v, w)
			}
		}
		if cost.Dag(c) != 0 || cost.Dag(c, []api.Term{}...) != 0 {
			t.Error("Dag of no terms")
		}
	}
	if shared == 0 {
		t.Error("no shared subterms")
	}
	x, y := term.Var("x", 8), term.Var("y", 8)
	sum := term.Make(api.OpAdd, term.Make(api.OpMul, x, y), term.Make(api.OpMul, x, y))
	if c := cost.Uniform(); cost.Tree(c, sum) != 7 || cost.Dag(c, sum) != 4 || cost.Tree(c, x) != 1 || cost.Dag(c, x) != 1 || cost.Tree(c, api.Term{}) != 1 || cost.Dag(c, api.Term{}) != 1 {
		t.Error("the example, and leaves")
	}
}

// TestDifferent checks that subterms that differ in one part are different (P10.2).
func TestDifferent(t *testing.T) {
	x := term.Var("x", 8)
	list := []api.Term{
		{Op: 3, Width: 4, Val: 5, Name: "n", Args: []api.Term{x, x}}, {Op: 4, Width: 4, Val: 5, Name: "n", Args: []api.Term{x, x}}, {Op: 3, Width: 5, Val: 5, Name: "n", Args: []api.Term{x, x}}, {Op: 3, Width: 4, Val: 6, Name: "n", Args: []api.Term{x, x}}, {Op: 3, Width: 4, Val: 5, Name: "m", Args: []api.Term{x, x}},
		{Op: 3, Width: 4, Val: 5, Name: "n", Args: []api.Term{x}}, {Op: 3, Width: 4, Val: 5, Name: "n"}, {Op: 3, Width: 4, Val: 5, Name: "n", Args: []api.Term{x, x, x}}, {Op: 3, Width: 4, Val: 5, Name: "n", Args: []api.Term{x, term.Var("x", 9)}}, {Op: 3, Width: 4, Val: 5, Name: "n", Args: []api.Term{term.Var("x", 9), x}},
	}
	for i, a := range list {
		for k, b := range list {
			two := api.Term{Op: api.OpConcat, Args: []api.Term{a, term.Copy(b)}}
			if n := cost.Dag(cost.Uniform(), two); n != wantDag(cost.Uniform(), two) || (i == k) != (n == cost.Dag(cost.Uniform(), a)+1) {
				t.Errorf("Dag of terms %d and %d is %d", i, k, n)
			}
		}
	}
	if n := cost.Dag(cost.Uniform(), api.Term{}, api.Term{Args: []api.Term{}}); n != 1 {
		t.Error("nil and empty operands:", n)
	}
}

// TestGreat checks deep and wide terms, and that the arguments are not changed.
func TestGreat(t *testing.T) {
	deep := term.Var("x", 8)
	for range 60000 {
		deep = api.Term{Op: api.OpNot, Width: 8, Args: []api.Term{deep}}
	}
	var c api.Costs
	c[api.OpNot] = api.MaxCost
	if n := cost.Tree(c, deep); n != 60000<<20+1 || cost.Dag(c, deep) != n || cost.Dag(c, deep, deep) != n {
		t.Error("a deep term:", n)
	}
	double := term.Var("x", 8)
	for range 16 {
		double = api.Term{Op: api.OpAdd, Width: 8, Args: []api.Term{double, double}}
	}
	if cost.Tree(c, double) != 1<<17-1 || cost.Dag(c, double) != 17 {
		t.Error("a term whose operands share memory")
	}
	list := []api.Term{double.Args[0].Args[0], term.Make(api.OpSub, term.Var("y", 8), term.Const(8, 3))}
	before := fmt.Sprint(list)
	cost.Dag(c, list...)
	cost.Tree(c, list[1])
	if fmt.Sprint(list) != before {
		t.Error("the arguments are changed")
	}
}
