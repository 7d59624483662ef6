package subst_test

import (
	"fmt"
	"math"
	"slices"
	"testing"

	"saturate/api"
	"saturate/enum"
	"saturate/eval"
	"saturate/subst"
	"saturate/term"
	"saturate/termtext"
)

// read returns the term or pattern with a text.
func read(s string) api.Term {
	t, e := termtext.Parse(s)
	if e != api.OK {
		panic(fmt.Sprint(s, " has the error ", e))
	}
	return t
}

// subs returns a substitution from names and texts, one after the other.
func subs(pairs ...string) []api.Sub {
	var list []api.Sub
	for i := 0; i < len(pairs); i += 2 {
		list = append(list, api.Sub{Name: pairs[i], Term: read(pairs[i+1])})
	}
	return list
}

// node returns a node that need not be valid.
func node(op api.Op, width int, args ...api.Term) api.Term {
	return api.Term{Op: op, Width: width, Args: args}
}

// leaf returns a named node that need not be valid.
func leaf(op api.Op, name string, width int, args ...api.Term) api.Term {
	return api.Term{Op: op, Width: width, Name: name, Args: args}
}

// sameSubs reports whether two substitutions are equal, entry by entry.
func sameSubs(a, b []api.Sub) bool {
	return slices.EqualFunc(a, b, func(a, b api.Sub) bool { return a.Name == b.Name && term.Same(a.Term, b.Term) })
}

// copySubs returns an equal substitution that shares no memory.
func copySubs(l []api.Sub) []api.Sub {
	var list []api.Sub
	for _, s := range l {
		list = append(list, api.Sub{Name: s.Name, Term: term.Copy(s.Term)})
	}
	return list
}

// spoil changes all nodes of a term, and what lies behind its operands.
func spoil(t *api.Term) {
	for i := range t.Args {
		spoil(&t.Args[i])
	}
	t.Name += "!"
	_ = append(t.Args, api.Term{Name: "spoilt"})
}

// roomy returns an equal term whose lists of operands have room for more.
func roomy(t api.Term) api.Term {
	args := make([]api.Term, 0, len(t.Args)+2)
	for _, arg := range t.Args {
		args = append(args, roomy(arg))
	}
	t.Args = args
	return t
}

// TestReplace checks P9.1 for Replace.
func TestReplace(t *testing.T) {
	for i, c := range []struct {
		t    api.Term
		subs []api.Sub
		want api.Term
	}{
		{read("(sub x:8 y:8)"), subs("x", "y:8", "y", "x:8"), read("(sub y:8 x:8)")},
		{read("(add x:8 (mul x:8 y:8))"), subs("x", "(add x:8 1:8)"), read("(add (add x:8 1:8) (mul (add x:8 1:8) y:8))")},
		{read("(add x:8 y:8)"), nil, read("(add x:8 y:8)")}, {read("(add x:8 y:8)"), subs("z", "1:8", "xx", "2:8", "", "3:8"), read("(add x:8 y:8)")},
		{read("(add x:8 y:8)"), subs("x", "1:8", "x", "2:8", "y", "3:8", "y", "x:8", "x", "4:8"), read("(add 1:8 3:8)")},
		{read("x:8"), subs("x", "(not x:8)"), read("(not x:8)")}, {read("5:8"), subs("", "1:8"), read("5:8")},
		// The widths of inner nodes, of the var and of the entry do not matter.
		{read("(add x:8 (not x:8))"), subs("x", "y:4"), node(api.OpAdd, 8, read("y:4"), node(api.OpNot, 8, read("y:4")))},
		{node(api.OpAdd, 7, leaf(api.OpVar, "x", 3), leaf(api.OpVar, "x", 4)), subs("x", "5:8"), node(api.OpAdd, 7, read("5:8"), read("5:8"))},
		// Only vars are replaced, also in terms that are not valid.
		{node(api.OpIte, 8, leaf(api.OpHole, "x", 8), leaf(api.OpNum, "x", 8), leaf(api.OpConst, "x", 8), leaf(99, "x", 8), leaf(api.OpVar, "x", 8)), subs("x", "1:8"), node(api.OpIte, 8, leaf(api.OpHole, "x", 8), leaf(api.OpNum, "x", 8), leaf(api.OpConst, "x", 8), leaf(99, "x", 8), read("1:8"))},
		{leaf(api.OpVar, "x", 8, read("y:8")), subs("y", "1:8"), leaf(api.OpVar, "x", 8, read("1:8"))}, {leaf(api.OpVar, "x", 8, read("y:8")), subs("x", "1:8", "y", "2:8"), read("1:8")},
		{leaf(api.OpHole, "x", 8, read("y:8")), subs("x", "1:8", "y", "2:8"), leaf(api.OpHole, "x", 8, read("2:8"))},
		{api.Term{Op: api.OpVar, Val: 7}, subs("", "3:8"), read("3:8")}, {api.Term{}, subs("", "3:8"), api.Term{}},
	} {
		before, entries := term.Copy(c.t), copySubs(c.subs)
		if u := subst.Replace(c.t, c.subs); !term.Same(u, c.want) {
			t.Errorf("case %d: %v, not %v", i, u, c.want)
		}
		if !term.Same(c.t, before) || !sameSubs(c.subs, entries) {
			t.Errorf("case %d: the arguments are changed", i)
		}
	}
}

// TestReplaceValue checks P9.5: replacing a variable is evaluating it as the value of its term.
func TestReplaceValue(t *testing.T) {
	g := api.Grammar{Vars: []api.Var{{Name: "x", Width: 2}, {Name: "y", Width: 3}, {Name: "z", Width: 2}}, Consts: []api.Word{{Width: 2, Val: 3}}, Size: 4, Most: 2500}
	for op := api.OpNot; op <= api.OpConcat; op++ {
		g.Ops = append(g.Ops, op)
	}
	terms, _ := enum.Terms(g)
	var two []api.Term // the terms that can stand for x and z
	for _, u := range terms {
		if u.Width == 2 {
			two = append(two, u)
		}
	}
	for i, u := range terms {
		a, b := two[i%len(two)], two[(i*i+3)%len(two)]
		env := []api.Bind{{Name: "x", Val: uint64(i)}, {Name: "y", Val: uint64(i / 3)}, {Name: "z", Val: uint64(i / 7)}}
		x, _ := eval.Eval(a, env)
		z, _ := eval.Eval(b, env)
		want, _ := eval.Eval(u, []api.Bind{{Name: "x", Val: x}, env[1], {Name: "z", Val: z}})
		r := subst.Replace(u, []api.Sub{{Name: "z", Term: b}, {Name: "x", Term: a}})
		if got, e := eval.Eval(r, env); got != want || e != api.OK {
			t.Fatalf("%v with %v and %v is %d, %d, not %d", u, a, b, got, e, want)
		}
	}
}

// TestLook checks P9.1 for Look.
func TestLook(t *testing.T) {
	l := subs("x", "(add x:8 1:8)", "y", "2:8", "x", "3:8", "", "4:8")
	for name, want := range map[string]string{"x": "(add x:8 1:8)", "y": "2:8", "": "4:8"} {
		if u, ok := subst.Look(l, name); !ok || !term.Same(u, read(want)) {
			t.Errorf("Look of %q is %v, %v", name, u, ok)
		}
	}
	for _, name := range []string{"z", "X", "xx", " x"} {
		if u, ok := subst.Look(l, name); ok || !term.Same(u, api.Term{}) {
			t.Errorf("Look of %q is %v, %v", name, u, ok)
		}
	}
	if u, ok := subst.Look(nil, ""); ok || !term.Same(u, api.Term{}) {
		t.Error("Look in no entries", u, ok)
	}
}

// TestRename checks P9.4 and P9.5 for Rename.
func TestRename(t *testing.T) {
	for i, c := range []struct {
		t, want api.Term
		subs    []api.Sub
	}{
		{read("(sub y:8 x:8)"), read("(sub v0:8 v1:8)"), subs("v0", "y:8", "v1", "x:8")},
		{read("(add (mul b:8 a:8) (sub a:8 (not c:8)))"), read("(add (mul v0:8 v1:8) (sub v1:8 (not v2:8)))"), subs("v0", "b:8", "v1", "a:8", "v2", "c:8")},
		{read("(concat v1:8 (concat v0:4 v1:8))"), read("(concat v0:8 (concat v1:4 v0:8))"), subs("v0", "v1:8", "v1", "v0:4")},
		{read("(ite (eq z:4 9:4) 1:8 y:8)"), read("(ite (eq v0:4 9:4) 1:8 v1:8)"), subs("v0", "z:4", "v1", "y:8")},
		{read("7:8"), read("7:8"), nil}, {api.Term{}, api.Term{}, nil}, {read("(add ?x:8 #y:8)"), read("(add ?x:8 #y:8)"), nil},
		// Terms that are not valid: every occurrence keeps its width, and a node comes before its operands.
		{node(api.OpAdd, 8, leaf(api.OpVar, "x", 3), leaf(api.OpVar, "x", 70), leaf(api.OpHole, "x", 1)), node(api.OpAdd, 8, leaf(api.OpVar, "v0", 3), leaf(api.OpVar, "v0", 70), leaf(api.OpHole, "x", 1)), []api.Sub{{Name: "v0", Term: leaf(api.OpVar, "x", 3)}}},
		{leaf(api.OpVar, "b", -1, read("a:8"), read("b:8")), leaf(api.OpVar, "v0", -1, read("v1:8"), read("v0:8")), []api.Sub{{Name: "v0", Term: leaf(api.OpVar, "b", -1)}, {Name: "v1", Term: read("a:8")}}},
		{node(99, 8, leaf(api.OpVar, "", 0)), node(99, 8, leaf(api.OpVar, "v0", 0)), []api.Sub{{Name: "v0", Term: leaf(api.OpVar, "", 0)}}},
	} {
		before := term.Copy(c.t)
		u, l := subst.Rename(c.t)
		if !term.Same(u, c.want) || !sameSubs(l, c.subs) {
			t.Errorf("case %d: %v, %v", i, u, l)
		}
		if !term.Same(c.t, before) {
			t.Errorf("case %d: the argument is changed", i)
		}
		if back := subst.Replace(u, l); term.Check(c.t) == api.OK && !term.Same(back, c.t) {
			t.Errorf("case %d: %v is not restored but %v", i, c.t, back)
		}
	}
	many, want := read("v0:1"), read("v0:1")
	for i := range 30 {
		many = node(api.OpXor, 1, many, leaf(api.OpVar, fmt.Sprint("w", 40-i), 1))
		want = node(api.OpXor, 1, want, leaf(api.OpVar, fmt.Sprint("v", i+1), 1))
	}
	u, l := subst.Rename(many)
	if !term.Same(u, want) || len(l) != 31 || l[30].Name != "v30" || !term.Same(l[30].Term, read("w11:1")) || !term.Same(subst.Replace(u, l), many) {
		t.Error("many variables:", u, l)
	}
}

// TestAbstract checks P9.4 for Abstract.
func TestAbstract(t *testing.T) {
	for i, c := range []struct{ t, want api.Term }{
		{read("x:8"), read("?x:8")}, {read("(add x:8 (mul y:8 3:8))"), read("(add ?x:8 (mul ?y:8 3:8))")}, {read("(ite (eq x:8 x:8) #x:4 ?y:4)"), read("(ite (eq ?x:8 ?x:8) #x:4 ?y:4)")}, {read("7:8"), read("7:8")}, {api.Term{}, api.Term{}},
		{leaf(api.OpVar, "", -3, read("x:8"), leaf(99, "x", 1)), leaf(api.OpHole, "", -3, read("?x:8"), leaf(99, "x", 1))},
	} {
		before := term.Copy(c.t)
		if u := subst.Abstract(c.t); !term.Same(u, c.want) {
			t.Errorf("case %d: %v, not %v", i, u, c.want)
		}
		if !term.Same(c.t, before) {
			t.Errorf("case %d: the argument is changed", i)
		}
	}
}

// TestMemory checks that no result shares memory with an argument, or with another part of the result.
func TestMemory(t *testing.T) {
	u := roomy(read("(add (not x:8) (mul x:8 (add y:8 1:8)))"))
	l := []api.Sub{{Name: "x", Term: roomy(read("(not (neg z:8))"))}, {Name: "y", Term: roomy(read("w:8"))}}
	p := roomy(read("(add (not ?x:8) (mul ?x:8 ?y:8))"))
	before, entries, pattern := term.Copy(u), copySubs(l), term.Copy(p)
	replaced, found := subst.Replace(u, l), first(subst.Look(l, "x"))
	renamed, old := subst.Rename(u)
	abstract := subst.Abstract(u)
	filled := first(subst.Fill(p, l))
	matched, ok := subst.Match(p, filled)
	kept := term.Copy(filled)
	if !ok {
		t.Fatal("no match")
	}
	for _, r := range []*api.Term{&replaced, &filled} { // x occurs twice
		want := term.Copy(r.Args[1])
		spoil(&r.Args[0])
		if !term.Same(r.Args[1], want) {
			t.Error("two parts of the result share memory")
		}
	}
	for _, s := range append(slices.Clone(matched), old...) {
		spoil(&s.Term)
	}
	for _, r := range []*api.Term{&replaced, &found, &renamed, &abstract} {
		spoil(r)
	}
	if !term.Same(u, before) || !sameSubs(l, entries) || !term.Same(p, pattern) || !term.Same(filled.Args[1], kept.Args[1]) {
		t.Error("a result shares memory with an argument")
	}
	if hasSpoilt(u) || hasSpoilt(p) || hasSpoilt(l[0].Term) || hasSpoilt(l[1].Term) {
		t.Error("a result shares the room behind operands with an argument")
	}
}

func first[T any](t api.Term, _ T) api.Term {
	return t
}

// hasSpoilt reports whether spoil has written behind the operands of a node.
func hasSpoilt(t api.Term) bool {
	behind := t.Args[:cap(t.Args)][len(t.Args):]
	return slices.ContainsFunc(behind, func(u api.Term) bool { return u.Name == "spoilt" }) || slices.ContainsFunc(t.Args, hasSpoilt)
}

// TestGreat checks deep terms, and substitutions with many entries.
func TestGreat(t *testing.T) {
	deep := read("x:8")
	for range 60000 {
		deep = node(api.OpNot, 8, deep)
	}
	if u := subst.Replace(deep, subs("x", "y:8")); term.Depth(u) != 60001 || term.Vars(u)[0].Name != "y" {
		t.Error("Replace")
	}
	if u, l := subst.Rename(deep); term.Depth(u) != 60001 || len(l) != 1 {
		t.Error("Rename")
	}
	if l, ok := subst.Match(subst.Abstract(deep), deep); !ok || len(l) != 1 {
		t.Error("Match")
	}
	if _, e := subst.Fill(deep, nil); e != api.ErrLong {
		t.Error("Fill", e)
	}
	wide := api.Term{Op: math.MaxInt}
	var many []api.Sub
	for i := range 30000 {
		name := fmt.Sprint("n", i)
		wide.Args = append(wide.Args, leaf(api.OpVar, name, 8))
		many = append(many, api.Sub{Name: name, Term: api.Term{Val: uint64(i)}})
	}
	u := subst.Replace(wide, many)
	for i, arg := range u.Args {
		if arg.Op != api.NoOp || arg.Val != uint64(i) {
			t.Fatal("many entries:", i, arg)
		}
	}
}
