package subst_test

import (
	"math/rand/v2"
	"slices"
	"testing"

	"saturate/api"
	"saturate/enum"
	"saturate/subst"
	"saturate/term"
)

// TestMatch checks P9.3 for examples.
func TestMatch(t *testing.T) {
	for i, c := range []struct {
		p, t string
		want []api.Sub
	}{
		{"(add ?a:8 ?a:8)", "(add x:8 x:8)", subs("a", "x:8")}, {"?a:8", "(mul x:8 y:8)", subs("a", "(mul x:8 y:8)")}, {"?a:8", "3:8", subs("a", "3:8")}, {"#a:8", "3:8", subs("a", "3:8")},
		{"(sub ?b:8 (mul ?a:8 ?b:8))", "(sub x:8 (mul 2:8 x:8))", subs("b", "x:8", "a", "2:8")}, {"(sub (mul #z:8 ?c:8) ?b:8)", "(sub (mul 4:8 x:8) x:8)", subs("z", "4:8", "c", "x:8", "b", "x:8")},
		{"(add x:8 1:8)", "(add x:8 1:8)", nil}, {"(extract 4 4 ?a:8)", "(extract 4 4 x:8)", subs("a", "x:8")}, {"(ite (eq ?a:8 0:8) ?b:4 ?c:4)", "(ite (eq x:8 0:8) y:4 1:4)", subs("a", "x:8", "b", "y:4", "c", "1:4")},
		// A name of a hole and a num stands for a const.
		{"(add ?a:8 #a:8)", "(add 5:8 5:8)", subs("a", "5:8")}, {"(add #a:8 ?a:8)", "(add 5:8 5:8)", subs("a", "5:8")},
		// A pattern is matched like any other term.
		{"?a:8", "(add ?b:8 #c:8)", subs("a", "(add ?b:8 #c:8)")}, {"?a:0", "?a:0", subs("a", "?a:0")}, {"(add ?a:0 1:0)", "(add ?b:0 1:0)", subs("a", "?b:0")},
	} {
		l, ok := subst.Match(read(c.p), read(c.t))
		if !ok || !sameSubs(l, c.want) {
			t.Errorf("case %d: %v, %v", i, l, ok)
		}
	}
	for i, c := range []struct{ p, t string }{
		{"(add ?a:8 ?a:8)", "(add x:8 y:8)"}, {"(add ?a:8 (not ?a:8))", "(add x:8 (not (not x:8)))"}, {"?a:8", "x:4"}, {"?a:0", "x:4"}, {"#a:8", "x:8"}, {"#a:8", "(add 1:8 2:8)"}, {"#a:8", "3:4"}, {"#a:8", "#a:8"}, {"#a:8", "?a:8"},
		{"(add #a:8 #a:8)", "(add 1:8 2:8)"}, {"(add ?a:8 #a:8)", "(add x:8 x:8)"}, {"(add ?a:8 #a:8)", "(add 4:8 5:8)"}, {"(add #a:8 ?a:8)", "(add 4:8 x:8)"},
		{"(add ?a:8 ?b:8)", "(sub x:8 y:8)"}, {"(add ?a:8 ?b:8)", "(add x:4 y:4)"}, {"(not ?a:8)", "(neg x:8)"}, {"x:8", "y:8"}, {"x:8", "x:4"}, {"x:8", "?x:8"}, {"3:8", "4:8"}, {"3:8", "3:4"}, {"(extract 4 4 ?a:8)", "(extract 3 4 x:8)"}, {"(extract 4 4 ?a:8)", "(extract 4 3 x:8)"},
		{"(zext 9 ?a:8)", "(zext 10 x:8)"}, {"(zext 9 ?a:8)", "(sext 9 x:8)"}, {"x:8", "3:8"}, {"(add 1:8 ?a:8)", "(add x:8 1:8)"},
		{"(eval 3:8)", "3:8"}, {"(eval 3:8)", "(eval 3:8)"}, {"(add ?a:8 (eval #c:8))", "(add x:8 (eval #c:8))"}, {"(eval #c:8)", "(eval 3:8)"},
	} {
		if l, ok := subst.Match(read(c.p), read(c.t)); ok || len(l) != 0 {
			t.Errorf("failure %d: %v, %v", i, l, ok)
		}
	}
}

// TestMatchOther checks P9.3 for patterns and terms that are not valid.
func TestMatchOther(t *testing.T) {
	x, y, a := read("x:8"), read("y:8"), read("?a:8")
	named := leaf(api.OpAdd, "n", 8, x, y)
	valued := api.Term{Op: api.OpAdd, Width: 8, Val: 1, Args: []api.Term{x, y}}
	for i, c := range []struct {
		p, t api.Term
		want []api.Sub
	}{
		{api.Term{}, api.Term{}, nil}, {named, named, nil}, {valued, valued, nil}, {leaf(api.OpAdd, "n", 8, a, y), named, subs("a", "x:8")}, {node(99, -1, a, a, a), node(99, -1, x, x, x), subs("a", "x:8")},
		{leaf(api.OpHole, "", -5), node(7, -5, x), []api.Sub{{Name: "", Term: node(7, -5, x)}}},
		// Operands of holes and nums do not matter.
		{leaf(api.OpHole, "a", 8, read("?b:8"), node(api.OpEval, 8)), x, subs("a", "x:8")}, {leaf(api.OpNum, "a", 8, x), read("3:8"), subs("a", "3:8")},
		{leaf(api.OpNum, "c", 8), leaf(api.OpConst, "k", 8, x), []api.Sub{{Name: "c", Term: leaf(api.OpConst, "k", 8, x)}}},
	} {
		if l, ok := subst.Match(c.p, c.t); !ok || !sameSubs(l, c.want) {
			t.Errorf("case %d: %v, %v", i, l, ok)
		}
	}
	for i, c := range []struct{ p, t api.Term }{
		{read("(add ?a:8 y:8)"), named}, {named, read("(add x:8 y:8)")}, {read("(add ?a:8 y:8)"), valued}, {valued, read("(add x:8 y:8)")}, {node(api.OpAdd, 8, a), read("(add x:8 y:8)")}, {read("(add ?a:8 ?a:8)"), node(api.OpAdd, 8, x, x, x)}, {read("(add ?a:8 ?a:8)"), node(api.OpAdd, 8, x)}, {read("(add ?a:8 ?a:8)"), node(api.OpAdd, 8)},
		{node(api.OpAdd, 7, a, a), node(api.OpAdd, 8, x, x)}, {node(api.OpEval, 8), node(api.OpEval, 8)}, {leaf(api.OpHole, "a", 7), x}, {node(99, 8, a, a), node(99, 8, leaf(api.OpVar, "x", 8), leaf(api.OpVar, "x", 9))},
	} {
		if l, ok := subst.Match(c.p, c.t); ok || len(l) != 0 {
			t.Errorf("failure %d: %v, %v", i, l, ok)
		}
	}
}

// place is a node of a pattern that stands for a term, with its path.
type place struct {
	node api.Term
	path []int
}

// places returns the holes and nums of a pattern in preorder.
func places(p api.Term, path []int) []place {
	if p.Op == api.OpHole || p.Op == api.OpNum {
		return []place{{p, slices.Clone(path)}}
	}
	var list []place
	for i, arg := range p.Args {
		list = append(list, places(arg, append(slices.Clone(path), i))...)
	}
	return list
}

// wantMatch finds the only substitution that is possible, by the positions of the
// names, and then tries whether the pattern becomes t with it.
func wantMatch(p, t api.Term) ([]api.Sub, bool) {
	var l []api.Sub
	filled := p
	for _, at := range places(p, nil) {
		u, ok := term.At(t, at.path)
		if !ok || u.Width != at.node.Width || at.node.Op == api.OpNum && u.Op != api.OpConst {
			return nil, false
		}
		if _, seen := subst.Look(l, at.node.Name); !seen {
			l = append(l, api.Sub{Name: at.node.Name, Term: u})
		}
		u, _ = subst.Look(l, at.node.Name)
		filled, _ = term.Put(filled, at.path, u)
	}
	return l, term.Same(filled, t)
}

// abstracted returns a pattern that t, or a term like it, may match.
func abstracted(r *rand.Rand, t api.Term) api.Term {
	name := string(rune('a' + r.IntN(3)))
	switch n := r.IntN(8); {
	case n < 2:
		return leaf(api.OpHole, name, t.Width)
	case n == 2 && (t.Op == api.OpConst || r.IntN(4) == 0):
		return leaf(api.OpNum, name, t.Width)
	}
	var args []api.Term
	for _, arg := range t.Args {
		args = append(args, abstracted(r, arg))
	}
	t.Args = args
	return t
}

// TestMatchRandom checks P9.3 and P9.5 for patterns made from terms, and those and other terms.
func TestMatchRandom(t *testing.T) {
	g := api.Grammar{Vars: []api.Var{{Name: "x", Width: 2}, {Name: "y", Width: 2}}, Consts: []api.Word{{Width: 2, Val: 1}, {Width: 2, Val: 2}}, Ops: []api.Op{api.OpAdd, api.OpNot, api.OpConcat, api.OpIte, api.OpEq}, Size: 6, Most: 30000}
	terms, _ := enum.Terms(g)
	r := rand.New(rand.NewPCG(9, 3))
	matches, failures := 0, 0
	for range 40000 {
		u := terms[r.IntN(len(terms))]
		p := abstracted(r, u)
		if r.IntN(3) == 0 {
			u = terms[r.IntN(len(terms))]
		}
		want, wantOk := wantMatch(p, u)
		l, ok := subst.Match(p, u)
		if ok != wantOk || ok && !sameSubs(l, want) || !ok && len(l) != 0 {
			t.Fatalf("Match of %v and %v is %v, %v, not %v, %v", p, u, l, ok, want, wantOk)
		}
		if !ok {
			failures++
			continue
		}
		matches++
		if back, e := subst.Fill(p, l); e != api.OK || !term.Same(back, u) {
			t.Fatalf("Fill of %v with %v is %v, %d, not %v", p, l, back, e, u)
		}
	}
	if matches < 5000 || failures < 5000 {
		t.Error(matches, failures)
	}
}
