package enum_test

import (
	"fmt"
	"math"
	"slices"
	"testing"

	"saturate/api"
	"saturate/enum"
	"saturate/opinfo"
	"saturate/term"
)

// operators returns all operators that a grammar can have.
func operators() []api.Op {
	var ops []api.Op
	for op := api.OpNot; op <= api.OpConcat; op++ {
		ops = append(ops, op)
	}
	return ops
}

// vars returns variables v0, v1 and so on with the given widths.
func vars(widths ...int) []api.Var {
	var list []api.Var
	for i, w := range widths {
		list = append(list, api.Var{Name: fmt.Sprint("v", i), Width: w})
	}
	return list
}

// leaves returns the different leaves of a grammar.
func leaves(g api.Grammar) []api.Term {
	var list []api.Term
	for _, v := range g.Vars {
		list = append(list, term.Var(v.Name, v.Width))
	}
	for i, c := range g.Consts {
		if slices.Index(g.Consts, c) == i {
			list = append(list, term.Const(c.Width, c.Val))
		}
	}
	return list
}

// naive returns the terms of a grammar by size, each level in increasing order.
func naive(g api.Grammar, most int) [][]api.Term {
	levels := [][]api.Term{nil, leaves(g)}
	for size := 2; size <= most; size++ {
		var level []api.Term
		for _, op := range g.Ops {
			operands(levels, opinfo.Arity(op), size-1, func(args []api.Term) {
				if t := term.Make(op, args...); term.Check(t) == api.OK {
					level = append(level, t)
				}
			})
		}
		levels = append(levels, level)
	}
	for _, level := range levels {
		slices.SortFunc(level, term.Compare)
	}
	return levels[:most+1]
}

// operands calls visit with all lists of n terms with a total size.
func operands(levels [][]api.Term, n, size int, visit func(args []api.Term)) {
	if n == 0 {
		if size == 0 {
			visit(nil)
		}
		return
	}
	for last := 1; last <= size-n+1; last++ {
		operands(levels, n-1, size-last, func(args []api.Term) {
			for _, t := range levels[last] {
				visit(append(slices.Clone(args), t))
			}
		})
	}
}

// grammars returns valid grammars, each with a Size up to which naive is fast.
func grammars() []api.Grammar {
	bit, byte := api.Word{Width: 1, Val: 1}, api.Word{Width: 8, Val: 255}
	return []api.Grammar{
		{}, {Size: 3}, {Ops: operators(), Size: 4},
		{Vars: vars(8), Ops: []api.Op{api.OpNot, api.OpAdd}, Size: 7},
		{Vars: vars(8), Ops: []api.Op{api.OpAdd, api.OpNot}, Size: 3},
		{Vars: vars(8, 1), Consts: []api.Word{byte, bit, byte}, Ops: operators(), Size: 4},
		{Vars: vars(2, 2, 3, 5), Ops: []api.Op{api.OpConcat, api.OpEq}, Size: 7},
		{Vars: vars(64, 32, 32, 1), Ops: []api.Op{api.OpConcat, api.OpIte, api.OpSlt}, Size: 6},
		{Vars: vars(1, 4), Ops: []api.Op{api.OpIte}, Size: 10},
		{Vars: vars(4, 4), Ops: []api.Op{api.OpIte, api.OpConcat, api.OpMul}, Size: 7},
		{Vars: vars(4, 8), Ops: []api.Op{api.OpUlt, api.OpIte}, Size: 8},
		{Vars: vars(8), Ops: []api.Op{api.OpIte, api.OpNeg}, Size: 9},
		{Consts: []api.Word{{Width: 3, Val: 5}, {Width: 2, Val: 3}, {Width: 3}, {Width: 3, Val: 5}}, Ops: []api.Op{api.OpXor, api.OpEq, api.OpNot}, Size: 6},
		{Vars: []api.Var{{Name: "b", Width: 8}, {Name: "a", Width: 8}, {Name: "c", Width: 4}}, Consts: []api.Word{{Width: 64, Val: math.MaxUint64}}, Ops: []api.Op{api.OpSub, api.OpConcat}, Size: 6},
		{Vars: vars(1, 2, 3, 4, 5, 6, 7, 8), Ops: operators(), Size: 4},
	}
}

// sameTerms reports whether two lists have the same terms in the same order.
func sameTerms(a, b []api.Term) bool {
	return slices.EqualFunc(a, b, term.Same)
}

// TestTerms checks P44.2 and P44.4: all terms in increasing order, and as many of them as Most allows.
func TestTerms(t *testing.T) {
	for i, g := range grammars() {
		levels := naive(g, g.Size)
		all := slices.Concat(levels...)
		for _, most := range []int{0, 1, 2, len(levels[min(g.Size, 1)]), len(all) / 2, len(all) - 1, len(all), len(all) + 1, api.MaxTerms} {
			g.Most = min(max(most, 0), api.MaxTerms)
			got, complete := enum.Terms(g)
			if want := all[:min(len(all), g.Most)]; !sameTerms(got, want) || complete != (len(all) <= g.Most) {
				t.Fatalf("grammar %d, at most %d terms: %d terms, %v; want %d of %d", i, g.Most, len(got), complete, len(want), len(all))
			}
			var each []api.Term
			for u := range enum.Each(g) {
				each = append(each, u)
			}
			if !sameTerms(each, got) {
				t.Fatalf("grammar %d, at most %d terms: Each yields %d, not %d", i, g.Most, len(each), len(got))
			}
			for size, level := range levels {
				if l := enum.Level(g, size); !sameTerms(l, level[:min(len(level), g.Most)]) {
					t.Fatalf("grammar %d, at most %d terms: level %d has %d of %d", i, g.Most, size, len(l), len(level))
				}
			}
		}
		for _, size := range []int{0, -1, math.MinInt, g.Size + 1, math.MaxInt} {
			if l := enum.Level(g, size); len(l) > 0 {
				t.Errorf("grammar %d: level %d has %d terms", i, size, len(l))
			}
		}
	}
}

// TestExample checks the example of chapter 44.
func TestExample(t *testing.T) {
	x := term.Var("x", 8)
	not := term.Make(api.OpNot, x)
	l, all := enum.Terms(api.Grammar{Vars: []api.Var{{Name: "x", Width: 8}}, Ops: []api.Op{api.OpNot, api.OpAdd}, Size: 3, Most: 9})
	if !sameTerms(l, []api.Term{x, not, term.Make(api.OpNot, not), term.Make(api.OpAdd, x, x)}) || !all {
		t.Error(l, all)
	}
}

// TestGreatest checks that the first terms of great grammars are found soon (P44.2), and P44.4 for them.
func TestGreatest(t *testing.T) {
	g := api.Grammar{Vars: vars(1, 2, 3, 4, 5, 6, 7, 8), Consts: []api.Word{{Width: 1}, {Width: 8, Val: 1}}, Ops: operators(), Size: 12, Most: 5000}
	for size := 1; size <= 12; size++ {
		total := int64(0)
		for w := 1; w <= 64; w++ {
			total = min(total+enum.Count(g, size, w), api.Infinite)
		}
		l := enum.Level(g, size)
		if int64(len(l)) != min(total, 5000) {
			t.Fatalf("level %d has %d of %d terms", size, len(l), total)
		}
		for i, u := range l {
			if term.Check(u) != api.OK || term.Size(u) != size || i > 0 && term.Compare(l[i-1], u) >= 0 {
				t.Fatalf("level %d: %v", size, u)
			}
		}
	}
	// The first of the greatest terms are complements of others, the last operators being tried last.
	first := term.Var("v0", 1)
	for range 11 {
		first = term.Make(api.OpNot, first)
	}
	if l := enum.Level(g, 12); !term.Same(l[0], first) {
		t.Error(l[0])
	}
	g.Most = api.MaxTerms
	if l, all := enum.Terms(g); len(l) != api.MaxTerms || all {
		t.Error(len(l), all)
	}
}

// TestEach checks that Each stops when it is told to, starts anew each time, and keeps no memory of its argument (P44.2).
func TestEach(t *testing.T) {
	g := api.Grammar{Vars: vars(8, 8), Consts: []api.Word{{Width: 8, Val: 3}}, Ops: []api.Op{api.OpAdd, api.OpIte, api.OpUlt}, Size: 9, Most: 100}
	want, _ := enum.Terms(g)
	each := enum.Each(g)
	g.Vars[0].Name, g.Consts[0].Val, g.Ops[0] = "changed", 9, api.OpSub
	for n := 1; n <= 100; n++ {
		var got []api.Term
		for u := range each {
			got = append(got, u)
			if len(got) == n {
				break
			}
		}
		if !sameTerms(got, want[:n]) {
			t.Fatalf("the first %d terms", n)
		}
	}
	if _, ok := enum.Terms(g); ok {
		t.Error("the changed grammar has more terms")
	}
}

// TestMemory checks that terms share no memory.
func TestMemory(t *testing.T) {
	g := api.Grammar{Vars: vars(8, 8), Ops: operators(), Size: 4, Most: 4000}
	change := func(u api.Term) {
		for i := range u.Args {
			for k := range u.Args[i].Args {
				u.Args[i].Args[k].Name = "changed"
			}
			u.Args[i].Name = "changed"
		}
	}
	want, _ := enum.Terms(g)
	l, _ := enum.Terms(g)
	for i, u := range l {
		if !term.Same(u, want[i]) {
			t.Fatal(u)
		}
		change(u)
	}
	i := 0
	for u := range enum.Each(g) {
		if !term.Same(u, want[i]) {
			t.Fatal(u)
		}
		change(u)
		i++
	}
	ops := []api.Op{api.OpSub, api.OpAdd}
	enum.Terms(api.Grammar{Vars: vars(8), Ops: ops, Size: 3, Most: 9})
	if ops[0] != api.OpSub {
		t.Error("Terms sorts its argument")
	}
}
