package rule_test

import (
	"math"
	"slices"
	"testing"

	"saturate/api"
	"saturate/rule"
	"saturate/term"
	"saturate/termtext"
)

// TestGeneric checks Generic of P28.2 for each pattern of a rule.
func TestGeneric(t *testing.T) {
	for i, x := range []struct {
		r    api.Rule
		want bool
	}{
		{read(t, "?a:4; r = (not ?b:4)", "?a:4", "equal ?a:4, ?b:4", "if 1:1"), false}, {read(t, "(add ?a:0 ?a:0)", "(shl ?a:0 1:0)"), true},
		{read(t, "(eq ?a:0 1:0)", "1:1"), true}, {read(t, "1:1; (not ?a:0)", "1:1"), true}, {read(t, "1:1", "(eq 0:0 1:0)"), true}, {read(t, "1:1", "1:1", "if (eq 1:0 1:0)"), true}, {read(t, "1:1", "1:1", "equal 1:0, 1:0"), true},
		{read(t, "1:1", "1:1", "equal 1:1, (eq 1:0 1:0)"), true}, {read(t, "?a:1", "1:1", "below ?a:1, (eq 1:0 1:0)"), true}, {read(t, "?a:1", "1:1", "zeros ?a:1, (eq 1:0 1:0)"), true}, {read(t, "?a:1", "1:1", "zeros ?a:1, 1:1"), false},
		// B of a predicate is no pattern; that of a guard of an unknown kind is one.
		{read(t, "1:1", "1:1", "if 1:1"), false}, {read(t, "1:1", "1:1", "if 1:1, 1:0"), false}, {read(t, "1:1", "1:1", "none 1:1, 1:1"), false}, {read(t, "1:1", "1:1", "none 1:1, 1:0"), true}, {read(t, "1:1", "1:1", "none 1:1"), true},
		{api.Rule{}, true}, {api.Rule{Right: pattern(t, "1:1")}, false},
	} {
		if rule.Generic(x.r) != x.want {
			t.Errorf("case %d", i)
		}
	}
}

// TestAt checks At of P28.2.
func TestAt(t *testing.T) {
	generic := read(t, "(add ?a:0 9:0); r = (not ?b:0); ?c:5", "(eval (add #k:0 17:0))", "if (ult #k:0 33:0)", "equal ?a:0, (neg ?b:0)", "zeros ?a:0, 3:0", "below ?c:5, 30:5")
	want := read(t, "(add ?a:3 1:3); r = (not ?b:3); ?c:5", "(eval (add #k:3 1:3))", "if (ult #k:3 1:3)", "equal ?a:3, (neg ?b:3)", "zeros ?a:3, 3:3", "below ?c:5, 30:5")
	if x, e := rule.At(generic, 3); e != api.OK || !rule.Same(x, want) {
		t.Error(x, e)
	}
	for _, w := range []int{0, 65, -1, math.MinInt, math.MaxInt} {
		if x, e := rule.At(generic, w); e != api.ErrRange || !rule.Same(x, api.Rule{}) {
			t.Error(w, x, e)
		}
		// The width is examined first.
		if x, e := rule.At(read(t, "?a:0", "?a:0", "none ?a:0"), w); e != api.ErrRange || !rule.Same(x, api.Rule{}) {
			t.Error(w, x, e)
		}
		if x, e := rule.At(api.Rule{}, w); e != api.ErrRange || !rule.Same(x, api.Rule{}) {
			t.Error(w, x, e)
		}
	}
	// A pattern without an instance, in each place, and a guard of an unknown kind.
	cut := api.Term{Op: api.OpExtract, Width: 4, Args: []api.Term{pattern(t, "?a:0")}}
	for i, change := range []func(r *api.Rule){
		func(r *api.Rule) { r.Left[0].Pattern = cut }, func(r *api.Rule) { r.Left[1].Pattern = cut }, func(r *api.Rule) { r.Right = cut }, func(r *api.Rule) { r.Guards[0].A = cut }, func(r *api.Rule) { r.Guards[1].B = cut },
	} {
		r := read(t, "?a:0; ?b:0", "?a:0", "if (eq 1:0 1:0)", "equal ?a:0, ?b:0", "none ?a:0")
		change(&r)
		if x, e := rule.At(r, 3); e != api.ErrWidth || !rule.Same(x, api.Rule{}) {
			t.Error(i, x, e)
		}
		if x, e := rule.At(r, 4); e != api.ErrArg || !rule.Same(x, api.Rule{}) {
			t.Error(i, x, e)
		}
	}
}

// genericRules returns valid generic rules.
func genericRules(t *testing.T) []api.Rule {
	t.Helper()
	return []api.Rule{
		read(t, "(add ?a:0 ?a:0)", "(shl ?a:0 1:0)"), read(t, "(mul ?a:0 0:0)", "0:0"), read(t, "(shl ?a:0 #c:0)", "(mul ?a:0 (eval (shl 1:0 #c:0)))"), read(t, "(eq ?a:0 ?a:0)", "1:1"), read(t, "(not (not ?a:0))", "?a:0"),
		read(t, "(ite (ult ?a:0 77:0) ?b:5 ?c:5)", "?b:5", "below ?a:0, 77:0"), read(t, "(sub ?x:0 ?y:0); x = (add ?y:0 ?z:0)", "?z:0"), read(t, "(urem ?a:0 #c:0)", "?a:0", "below ?a:0, #c:0", "if (ult 1:0 #c:0)"), read(t, "r = (and ?a:0 ?b:0); (zext 16 ?w:8)", "?r:0", "zeros ?a:0, 255:0", "equal ?r:0, (or ?a:0 ?b:0)"),
	}
}

// TestInstances checks P28.5 for At: the instances of valid rules are valid, and At leaves rules that are not generic as they are.
func TestInstances(t *testing.T) {
	for i, r := range genericRules(t) {
		if e := rule.Check(r); e != api.OK || !rule.Generic(r) {
			t.Fatalf("rule %d: %d", i, e)
		}
		for w := 1; w <= api.MaxWidth; w++ {
			x, e := rule.At(r, w)
			if e != api.OK || rule.Check(x) != api.OK || rule.Generic(x) {
				t.Fatalf("rule %d at %d: %v, %d", i, w, x, e)
			}
			if x.Right.Width != w && r.Right.Width == 0 || x.Right.Width != r.Right.Width && r.Right.Width != 0 {
				t.Fatalf("rule %d at %d: %v", i, w, x)
			}
			if y, e := rule.At(x, 65-w); e != api.OK || !rule.Same(x, y) {
				t.Fatalf("rule %d at %d: %v, %d", i, w, y, e)
			}
		}
	}
}

// TestNames checks Holes and Nums of P28.2.
func TestNames(t *testing.T) {
	for i, x := range []struct {
		r           api.Rule
		holes, nums []api.Var
	}{
		{read(t, "(add ?b:4 (sub ?a:4 #c:4))", "?a:4"), []api.Var{{Name: "a", Width: 4}, {Name: "b", Width: 4}}, []api.Var{{Name: "c", Width: 4}}},
		{read(t, "x = (zext 8 ?y:4); (add ?z:0 #b:0); (add #a:2 ?w:2)", "?x:8"), []api.Var{{Name: "w", Width: 2}, {Name: "x", Width: 8}, {Name: "y", Width: 4}, {Name: "z", Width: 0}}, []api.Var{{Name: "a", Width: 2}, {Name: "b", Width: 0}}},
		// those of Right and of guards do not count
		{read(t, "(not 1:4)", "(add ?a:4 #c:4)", "equal ?b:4, #d:4"), nil, nil},
		{api.Rule{}, nil, nil},
		// A Root comes before its Pattern, and in preorder the first width counts.
		{read(t, "r = (concat ?r:3 ?s:5); (concat ?s:6 ?r:7)", "?r:8"), []api.Var{{Name: "r", Width: 8}, {Name: "s", Width: 5}}, nil},
	} {
		if holes, nums := rule.Holes(x.r), rule.Nums(x.r); !slices.Equal(holes, x.holes) || !slices.Equal(nums, x.nums) {
			t.Errorf("case %d: %v, %v", i, holes, nums)
		}
	}
}

// TestSimple checks Simple of P28.2.
func TestSimple(t *testing.T) {
	for i, x := range []struct {
		r    api.Rule
		want bool
	}{
		{read(t, "?a:4", "?a:4"), true}, {read(t, "(shl ?a:0 #c:0)", "(eval #c:0)"), true}, {read(t, "x:4", "?b:8"), true},
		{read(t, "r = ?a:4", "?a:4"), false}, {read(t, "?a:4; ?a:4", "?a:4"), false}, {read(t, "?a:4", "?a:4", "if 1:1"), false}, {api.Rule{}, false},
	} {
		if rule.Simple(x.r) != x.want {
			t.Errorf("case %d", i)
		}
	}
}

// TestSame checks Same of P28.2: a change of any part makes a rule another one.
func TestSame(t *testing.T) {
	make := func() api.Rule {
		return read(t, "(add ?a:8 ?b:8); r = (not ?a:8)", "?r:8", "equal ?a:8, ?b:8", "below ?a:8, 9:8")
	}
	if r := make(); !rule.Same(r, make()) || !rule.Same(api.Rule{}, api.Rule{Left: []api.Atom{}, Guards: []api.Guard{}, Right: api.Term{Args: []api.Term{}}}) {
		t.Error(r)
	}
	for i, change := range []func(r *api.Rule){
		func(r *api.Rule) { r.Name = "s" }, func(r *api.Rule) { r.Left[0].Root = "r" }, func(r *api.Rule) { r.Left[1].Root = "" }, func(r *api.Rule) { r.Left[0].Pattern.Args[1].Name = "c" }, func(r *api.Rule) { r.Left[1].Pattern.Op = api.OpNeg },
		func(r *api.Rule) { r.Left = r.Left[:1] }, func(r *api.Rule) { r.Left = append(r.Left, r.Left[0]) }, func(r *api.Rule) { r.Left[0], r.Left[1] = r.Left[1], r.Left[0] },
		func(r *api.Rule) { r.Right.Width = 7 }, func(r *api.Rule) { r.Right.Val = 1 }, func(r *api.Rule) { r.Right.Args = append(r.Right.Args, r.Right) },
		func(r *api.Rule) { r.Guards[0].Kind = 9 }, func(r *api.Rule) { r.Guards[0].A.Name = "b" }, func(r *api.Rule) { r.Guards[1].B.Val = 8 }, func(r *api.Rule) { r.Guards = r.Guards[:1] }, func(r *api.Rule) { r.Guards = append(r.Guards, r.Guards[0]) }, func(r *api.Rule) { r.Guards[0], r.Guards[1] = r.Guards[1], r.Guards[0] },
	} {
		r := make()
		change(&r)
		if rule.Same(r, make()) || rule.Same(make(), r) || !rule.Same(r, r) {
			t.Errorf("change %d", i)
		}
	}
}

// TestReverse checks P28.3.
func TestReverse(t *testing.T) {
	for i, x := range []struct {
		r    api.Rule
		want api.Errno
	}{
		{read(t, "(add ?a:8 0:8)", "?a:8"), api.OK}, {read(t, "(add ?a:0 #c:0)", "(sub ?a:0 (neg #c:0))"), api.OK}, {read(t, "1:4", "2:4"), api.OK},
		// the error of Check
		{read(t, "(mul ?a:8 0:8); r = x:8", "0:8"), api.ErrOp}, {read(t, "?a:8", "?b:8"), api.ErrBind}, {read(t, "R = ?a:8", "(eval 1:8)"), api.ErrName}, {read(t, "?a:8", "?a:8", "none ?a:8"), api.ErrArg}, {read(t, "?a:8", "?a:8", "equal ?b:8, ?a:8"), api.ErrBind}, {read(t, "?a:8", "?a:4"), api.ErrBind}, {read(t, "?a:8", "1:4"), api.ErrWidth},
		// the form, before the names
		{read(t, "r = (add ?a:8 0:8)", "?a:8"), api.ErrArg}, {read(t, "?a:8; ?b:8", "(add ?a:8 ?b:8)"), api.ErrArg}, {read(t, "?a:8", "?a:8", "if 1:1"), api.ErrArg}, {read(t, "(add ?a:8 #c:8)", "(add ?a:8 (eval #c:8))"), api.ErrArg}, {read(t, "(add ?a:8 #c:8)", "(eval #c:8)"), api.ErrArg}, {read(t, "r = (add ?a:8 0:8)", "0:8"), api.ErrArg}, {read(t, "(add ?a:8 0:8)", "(eval 0:8)"), api.ErrArg},
		{read(t, "(mul ?a:8 0:8)", "0:8"), api.ErrBind}, {read(t, "(mul #c:8 0:8)", "0:8"), api.ErrBind}, {read(t, "(add ?a:8 #c:8)", "?a:8"), api.ErrBind}, {read(t, "(add ?a:8 #c:8)", "#c:8"), api.ErrBind}, {read(t, "(and ?a:8 (not ?b:8))", "?a:8"), api.ErrBind},
	} {
		x.r.Name = "name"
		y, e := rule.Reverse(x.r)
		want := api.Rule{}
		if x.want == api.OK {
			want = api.Rule{Name: "name", Left: []api.Atom{{Pattern: x.r.Right}}, Right: x.r.Left[0].Pattern}
		}
		if e != x.want || !rule.Same(y, want) {
			t.Errorf("case %d: %v, %d, not %d", i, y, e, x.want)
		}
		if e != api.OK {
			continue
		}
		if z, e := rule.Reverse(y); e != api.OK || !rule.Same(z, x.r) || rule.Check(y) != api.OK {
			t.Errorf("case %d: %v, %d", i, z, e)
		}
	}
}

// spoil changes all operands of patterns, from their leaves on.
func spoil(l ...api.Term) {
	for _, p := range l {
		spoil(p.Args...)
		for k := range p.Args {
			p.Args[k] = api.Term{Op: 99}
		}
	}
}

// spoilRule changes all memory of a rule.
func spoilRule(r api.Rule) {
	for k, a := range r.Left {
		spoil(a.Pattern)
		r.Left[k] = api.Atom{Root: "?"}
	}
	spoil(r.Right)
	for k, c := range r.Guards {
		spoil(c.A, c.B)
		r.Guards[k] = api.Guard{}
	}
}

// TestMemory checks that results share no memory with arguments, and that arguments are not changed.
func TestMemory(t *testing.T) {
	make := func() api.Rule {
		r := read(t, "(add ?a:8 (not ?b:8)); r = (not (neg ?a:8))", "(neg (neg ?r:8))", "equal (not ?a:8), (neg ?b:8)", "if (not 0:1)")
		r.Guards[1].B = api.Term{Args: []api.Term{{Op: 5}, {Op: 6}}}
		return r
	}
	r := make()
	x, e := rule.At(r, 5)
	if e != api.OK {
		t.Fatal(e)
	}
	spoilRule(x)
	if !rule.Same(r, make()) {
		t.Error("At", r)
	}
	r.Guards[1].B = api.Term{}
	want, _ := rule.At(r, 5)
	hyps, left, right := rule.Equation(r)
	rule.Sound(r)
	rule.SoundUpTo(r, 3)
	spoil(append(hyps, left, right)...)
	if !rule.Same(r, want) {
		t.Error("Equation", r)
	}
	double := func() api.Rule { return read(t, "(add ?a:8 (not ?a:8))", "(neg (neg ?a:8))") }
	r = double()
	y, e := rule.Reverse(r)
	if e != api.OK {
		t.Fatal(e)
	}
	spoilRule(y)
	if !rule.Same(r, double()) {
		t.Error("Reverse", r)
	}
	// Two results share none, either.
	y, _ = rule.Reverse(r)
	text := termtext.Print(y.Right)
	z, _ := rule.Reverse(r)
	spoilRule(z)
	if termtext.Print(y.Right) != text || !term.Same(y.Left[0].Pattern, r.Right) {
		t.Error(y)
	}
}
