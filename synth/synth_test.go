package synth_test

import (
	"slices"
	"strings"
	"testing"

	"saturate/api"
	"saturate/rule"
	"saturate/synth"
	"saturate/term"
	"saturate/termtext"
)

// read returns the term or pattern with a text.
func read(t *testing.T, s string) api.Term {
	t.Helper()
	x, e := termtext.Parse(s)
	if e != api.OK {
		t.Fatal(s, e)
	}
	return x
}

// group returns a group of terms.
func group(t *testing.T, l ...string) api.Group {
	t.Helper()
	var g api.Group
	for _, s := range l {
		g.Terms = append(g.Terms, read(t, s))
	}
	return g
}

// equation returns the equation of terms that are separated by an equals sign.
func equation(t *testing.T, s string) api.Concl {
	t.Helper()
	a, b, _ := strings.Cut(s, " = ")
	return api.Concl{A: read(t, a), B: read(t, b)}
}

func equations(t *testing.T, l ...string) []api.Concl {
	t.Helper()
	var list []api.Concl
	for _, s := range l {
		list = append(list, equation(t, s))
	}
	return list
}

func sameConcl(a, b api.Concl) bool {
	return a.IsFact == b.IsFact && a.Facts == b.Facts && term.Same(a.A, b.A) && term.Same(a.B, b.B)
}

// spoil changes the memory that belongs to a term.
func spoil(t api.Term) {
	for k := range t.Args {
		spoil(t.Args[k])
		t.Args[k] = api.Term{Op: 77}
	}
}

// huge returns a term that is enormous because its operands share memory.
func huge(t *testing.T) api.Term {
	x := read(t, "x:8")
	for range 62 {
		x = api.Term{Op: api.OpAdd, Width: 8, Args: []api.Term{x, x}}
	}
	return x
}

// TestCandidates checks P46.1.
func TestCandidates(t *testing.T) {
	for i, c := range []struct {
		groups []api.Group
		want   []api.Concl
	}{
		{nil, nil}, {[]api.Group{{}}, nil}, {[]api.Group{group(t, "x:8")}, nil}, {[]api.Group{{Width: 3, Vector: []uint64{1, 2}}}, nil},
		{[]api.Group{group(t, "x:8", "(add x:8 0:8)", "(not (not x:8))")}, equations(t, "(add x:8 0:8) = x:8", "(not (not x:8)) = x:8")},
		// The first term counts, in whatever order they are.
		{[]api.Group{group(t, "(not (not x:8))", "x:8", "(add x:8 0:8)")}, equations(t, "x:8 = (not (not x:8))", "(add x:8 0:8) = (not (not x:8))")},
		// All variables of the first term have to occur.
		{[]api.Group{group(t, "(add x:8 y:8)", "(sub x:8 x:8)", "(add y:8 x:8)", "y:8", "3:8", "(sub (add y:8 z:8) (sub z:8 x:8))")}, equations(t, "(add y:8 x:8) = (add x:8 y:8)", "(sub (add y:8 z:8) (sub z:8 x:8)) = (add x:8 y:8)")},
		{[]api.Group{group(t, "0:8", "(sub x:8 x:8)", "(and 0:8 0:8)")}, equations(t, "(sub x:8 x:8) = 0:8", "(and 0:8 0:8) = 0:8")},
		{[]api.Group{group(t, "x:8", "y:8", "(and y:8 y:8)")}, nil},
		// Only the names of variables count, and consts have none.
		{[]api.Group{group(t, "(zext 8 x:4)", "(add x:8 x:8)", "(zext 8 y:4)")}, equations(t, "(add x:8 x:8) = (zext 8 x:4)")},
		{[]api.Group{{Terms: []api.Term{read(t, "x:8"), {Op: api.OpConst, Width: 8, Name: "x"}, {Op: 99, Args: []api.Term{read(t, "x:2")}}}}}, []api.Concl{{A: api.Term{Op: 99, Args: []api.Term{read(t, "x:2")}}, B: read(t, "x:8")}}},
		// Terms that occur twice, and groups one after the other.
		{[]api.Group{group(t, "x:8", "x:8"), {}, group(t, "1:4", "(not 14:4)", "(not 14:4)"), group(t, "y:8", "x:8"), group(t, "x:8", "(neg (neg x:8))")}, equations(t, "x:8 = x:8", "(not 14:4) = 1:4", "(not 14:4) = 1:4", "(neg (neg x:8)) = x:8")},
	} {
		if got := synth.Candidates(c.groups); !slices.EqualFunc(got, c.want, sameConcl) {
			t.Errorf("case %d: %v, not %v", i, got, c.want)
		}
	}
	groups := []api.Group{group(t, "(not (not x:8))", "(neg (neg x:8))", "(add x:8 0:8)")}
	l := synth.Candidates(groups)
	spoil(l[0].A)
	spoil(l[0].B)
	if !sameConcl(l[1], equation(t, "(add x:8 0:8) = (not (not x:8))")) || !slices.EqualFunc(groups[0].Terms, group(t, "(not (not x:8))", "(neg (neg x:8))", "(add x:8 0:8)").Terms, term.Same) {
		t.Error("shared memory:", l, groups)
	}
}

// TestTrivial checks P46.1.
func TestTrivial(t *testing.T) {
	invalid := []api.Term{{}, {Op: api.OpVar, Width: 8, Name: "X"}, {Op: api.OpHole, Width: 8, Name: "x"}, {Op: api.OpVar, Width: 65, Name: "x"}, {Op: api.OpNot, Width: 4, Args: []api.Term{read(t, "x:8")}}, huge(t)}
	valid := []api.Term{read(t, "x:8"), read(t, "y:8"), read(t, "x:4"), read(t, "0:8"), read(t, "(add x:8 0:8)"), read(t, "(add 0:8 x:8)"), read(t, "(not (not x:8))")}
	for i, a := range valid {
		for k, b := range valid {
			if synth.Trivial(a, b) != (i == k) {
				t.Error(a, b)
			}
		}
		for _, b := range invalid {
			if !synth.Trivial(a, b) || !synth.Trivial(b, a) || !synth.Trivial(b, b) {
				t.Error(a, b)
			}
		}
	}
	if !synth.Trivial(read(t, "(add x:8 (not y:8))"), read(t, "(add x:8 (not y:8))")) {
		t.Error("the same term")
	}
}

// TestRule checks P46.2.
func TestRule(t *testing.T) {
	for _, c := range []struct{ a, b, left, right string }{
		{"(add x:8 0:8)", "x:8", "(add ?x:8 0:8)", "?x:8"}, {"x:8", "x:8", "?x:8", "?x:8"}, {"(sub x:8 x:8)", "0:8", "(sub ?x:8 ?x:8)", "0:8"}, {"3:4", "(not 12:4)", "3:4", "(not 12:4)"},
		{"(ite c:1 (add x:8 y:8) (zext 8 z:2))", "(ite (not c:1) (zext 8 z:2) (add y:8 x:8))", "(ite ?c:1 (add ?x:8 ?y:8) (zext 8 ?z:2))", "(ite (not ?c:1) (zext 8 ?z:2) (add ?y:8 ?x:8))"},
		// A rule need not hold.
		{"(add x:8 y:8)", "(mul y:8 x:8)", "(add ?x:8 ?y:8)", "(mul ?y:8 ?x:8)"},
	} {
		a, b := read(t, c.a), read(t, c.b)
		r, e := synth.Rule("some_rule_16_abc", a, b)
		want := api.Rule{Name: "some_rule_16_abc", Left: []api.Atom{{Pattern: read(t, c.left)}}, Right: read(t, c.right)}
		if e != api.OK || !rule.Same(r, want) || rule.Check(r) != api.OK || !rule.Simple(r) {
			t.Errorf("%s, %s: %v, %d", c.a, c.b, r, e)
		}
		spoil(r.Left[0].Pattern)
		spoil(r.Right)
		if !term.Same(a, read(t, c.a)) || !term.Same(b, read(t, c.b)) {
			t.Errorf("%s, %s: shared memory", c.a, c.b)
		}
	}
	// More holes than a valid rule may have are no error.
	s := "v0:1"
	for k := range 16 {
		s = "(add v" + string(rune('a'+k)) + ":1 " + s + ")"
	}
	if r, e := synth.Rule("r", read(t, s), read(t, "v0:1")); e != api.OK || len(rule.Holes(r)) != 17 {
		t.Error(r, e)
	}
}

// TestRuleErrors checks each error of P46.2, and that the first one is returned.
func TestRuleErrors(t *testing.T) {
	for _, c := range []struct {
		a, b string
		want api.Errno
	}{
		{"x:8", "(zext 16 x:8)", api.ErrWidth}, {"x:8", "x:4", api.ErrWidth}, {"x:8", "y:4", api.ErrWidth}, {"x:8", "y:8", api.ErrBind}, {"1:8", "x:8", api.ErrBind}, {"(add x:8 y:8)", "(add x:8 z:8)", api.ErrBind}, {"(add x:8 y:8)", "(add x:8 (zext 8 y:4))", api.ErrBind}, {"(zext 8 x:4)", "x:8", api.ErrBind}, {"x:8", "(extract 0 8 (concat x:8 y:8))", api.ErrBind},
	} {
		if r, e := synth.Rule("r", read(t, c.a), read(t, c.b)); e != c.want || !rule.Same(r, api.Rule{}) {
			t.Errorf("%s, %s: %v, %d, not %d", c.a, c.b, r, e, c.want)
		}
	}
	for _, name := range []string{"", "R", "1", "_r", "r-1", "abcdefghijklmnopq", "\xff"} {
		for _, a := range []api.Term{read(t, "x:8"), {}, huge(t)} {
			if r, e := synth.Rule(name, a, api.Term{Op: api.OpVar, Width: 1}); e != api.ErrName || !rule.Same(r, api.Rule{}) {
				t.Errorf("%q: %v, %d", name, r, e)
			}
		}
	}
	terms := []struct {
		x    api.Term
		want api.Errno
	}{
		{huge(t), api.ErrLong}, {api.Term{}, api.ErrOp}, {api.Term{Op: api.OpHole, Width: 8, Name: "x"}, api.ErrOp}, {api.Term{Op: api.OpVar, Width: 8, Name: "X"}, api.ErrName}, {api.Term{Op: api.OpVar, Name: "x"}, api.ErrWidth}, {api.Term{Op: api.OpAdd, Width: 8, Args: []api.Term{read(t, "x:8"), read(t, "(zext 8 x:4)")}}, api.ErrBind},
	}
	for _, a := range terms {
		for _, b := range append(terms, terms[0]) {
			// The error of the first term counts, whatever the second one has.
			if r, e := synth.Rule("r", a.x, b.x); e != a.want || !rule.Same(r, api.Rule{}) {
				t.Errorf("%d, not %d", e, a.want)
			}
		}
		if _, e := synth.Rule("r", a.x, read(t, "y:4")); e != a.want {
			t.Errorf("%d, not %d", e, a.want)
		}
		if r, e := synth.Rule("r", read(t, "y:4"), a.x); e != a.want || !rule.Same(r, api.Rule{}) {
			t.Errorf("%d, not %d", e, a.want)
		}
	}
}

// TestVerify checks P46.3.
func TestVerify(t *testing.T) {
	l := equations(t, "(add x:3 0:3) = x:3", "(add x:3 1:3) = x:3", "(mul x:3 2:3) = (add x:3 x:3)", "x:3 = y:3", "(and x:4 y:4) = (and y:4 x:4)", "(udiv x:4 y:4) = 15:4", "3:8 = 3:8", "3:8 = 4:8")
	holds := []bool{true, false, true, false, true, false, true, false}
	for set := range 1 << len(l) {
		var some, yes, no []api.Concl
		for k, c := range l {
			switch {
			case set>>k&1 == 0:
			case holds[k]:
				some, yes = append(some, c), append(yes, c)
			default:
				some, no = append(some, c), append(no, c)
			}
		}
		confirmed, refuted, e := synth.Verify(some)
		if e != api.OK || !slices.EqualFunc(confirmed, yes, sameConcl) || !slices.EqualFunc(refuted, no, sameConcl) {
			t.Fatal(some, confirmed, refuted, e)
		}
	}
	confirmed, refuted, _ := synth.Verify(l)
	for _, c := range append(confirmed, refuted...) {
		spoil(c.A)
		spoil(c.B)
	}
	if !term.Same(l[0].A, read(t, "(add x:3 0:3)")) || !term.Same(l[2].B, read(t, "(add x:3 x:3)")) || !term.Same(l[1].A, read(t, "(add x:3 1:3)")) || !term.Same(l[5].A, read(t, "(udiv x:4 y:4)")) {
		t.Error("shared memory:", l)
	}
}

// TestVerifyErrors checks that Verify returns the first error with nothing (P46.3).
func TestVerifyErrors(t *testing.T) {
	fine, wrong := equation(t, "(add x:3 0:3) = x:3"), equation(t, "(add x:3 1:3) = x:3")
	long, width := equation(t, "x:17 = x:17"), equation(t, "x:3 = (zext 4 x:3)")
	bind, invalid := equation(t, "(zext 8 x:4) = x:8"), api.Concl{A: read(t, "x:3"), B: huge(t)}
	for i, c := range []struct {
		l    []api.Concl
		want api.Errno
	}{
		{[]api.Concl{long}, api.ErrLong}, {[]api.Concl{width}, api.ErrWidth}, {[]api.Concl{bind}, api.ErrBind}, {[]api.Concl{invalid}, api.ErrLong}, {[]api.Concl{{}}, api.ErrOp}, {[]api.Concl{fine, wrong, width}, api.ErrWidth}, {[]api.Concl{width, fine, wrong}, api.ErrWidth}, {[]api.Concl{fine, bind, width, long}, api.ErrBind}, {[]api.Concl{wrong, long, bind, fine}, api.ErrLong}, {[]api.Concl{wrong, fine}, api.OK},
	} {
		yes, no, e := synth.Verify(c.l)
		if e != c.want || e != api.OK && len(yes)+len(no) > 0 {
			t.Errorf("case %d: %v, %v, %d, not %d", i, yes, no, e, c.want)
		}
	}
	if yes, no, e := synth.Verify(nil); e != api.OK || len(yes)+len(no) > 0 {
		t.Error(yes, no, e)
	}
}

// TestGeneralize checks P46.5.
func TestGeneralize(t *testing.T) {
	for _, c := range []struct{ left, right, newLeft, newRight string }{
		{"(add ?x:4 0:4)", "?x:4", "(add ?x:0 0:0)", "?x:0"}, {"(add ?x:64 0:64)", "?x:64", "(add ?x:0 0:0)", "?x:0"}, {"?x:8", "?x:8", "?x:0", "?x:0"}, {"(not (not ?x:1))", "?x:1", "(not (not ?x:0))", "?x:0"}, {"(mul ?x:4 ?y:4)", "(mul ?y:4 ?x:4)", "(mul ?x:0 ?y:0)", "(mul ?y:0 ?x:0)"},
		{"(shl ?x:4 #c:4)", "(mul ?x:4 (eval (shl 1:4 #c:4)))", "(shl ?x:0 #c:0)", "(mul ?x:0 (eval (shl 1:0 #c:0)))"}, {"3:4", "3:4", "3:0", "3:0"},
		// The value of a const stays. It is -1 up to the width 4, whatever its own width was.
		{"(and ?x:4 15:4)", "?x:4", "(and ?x:0 15:0)", "?x:0"}, {"(and ?x:5 15:5)", "?x:5", "(and ?x:0 15:0)", "?x:0"}, {"(and ?x:4 7:4)", "?x:4", "", ""}, {"(and ?x:4 3:4)", "?x:4", "", ""},
		// a rule that is generic already
		{"(add ?x:0 0:0)", "?x:0", "(add ?x:0 0:0)", "?x:0"}, {"(add ?x:0 1:0)", "?x:0", "", ""},
		// rules that hold at some width only, or at none
		{"(mul ?x:1 ?x:1)", "?x:1", "", ""}, {"(neg ?x:1)", "?x:1", "", ""}, {"(add ?x:2 (add ?x:2 (add ?x:2 ?x:2)))", "0:2", "", ""}, {"(shl ?x:3 3:3)", "0:3", "", ""}, {"(add ?x:4 ?y:4)", "?x:4", "", ""},
		// different widths, also generic ones, and operators whose widths are not those of their operands
		{"(eq ?x:4 ?x:4)", "1:1", "", ""}, {"(zext 8 ?x:4)", "(zext 8 ?x:4)", "", ""}, {"(ite ?c:1 ?x:4 ?x:4)", "?x:4", "", ""}, {"(eq ?x:0 ?x:0)", "1:1", "", ""}, {"(ite (eq ?x:0 ?x:0) ?x:0 ?x:0)", "?x:0", "", ""}, {"(ite (eq 1:1 1:1) ?x:4 ?x:4)", "?x:4", "", ""},
		{"(eq ?x:1 ?x:1)", "1:1", "", ""}, {"(ite ?c:1 ?x:1 ?x:1)", "?x:1", "", ""}, {"(zext 4 ?x:4)", "?x:4", "", ""}, {"(sext 4 ?x:4)", "?x:4", "", ""}, {"(extract 0 4 ?x:4)", "?x:4", "", ""},
		// With the width 4, 16 bits can be verified, but not 20.
		{"(add (add ?a:4 ?b:4) (add ?c:4 ?d:4))", "(add (add ?d:4 ?c:4) (add ?b:4 ?a:4))", "(add (add ?a:0 ?b:0) (add ?c:0 ?d:0))", "(add (add ?d:0 ?c:0) (add ?b:0 ?a:0))"}, {"(add ?e:2 (add (add ?a:2 ?b:2) (add ?c:2 ?d:2)))", "(add (add (add ?d:2 ?c:2) (add ?b:2 ?a:2)) ?e:2)", "", ""},
	} {
		r := api.Rule{Name: "r", Left: []api.Atom{{Pattern: read(t, c.left)}}, Right: read(t, c.right)}
		want, wantOk := r, c.newLeft != ""
		if wantOk {
			want = api.Rule{Name: "r", Left: []api.Atom{{Pattern: read(t, c.newLeft)}}, Right: read(t, c.newRight)}
		}
		x, ok := synth.Generalize(r)
		if ok != wantOk || !rule.Same(x, want) {
			t.Errorf("%s, %s: %v, %v", c.left, c.right, x, ok)
		}
		spoil(x.Left[0].Pattern)
		spoil(x.Right)
		if !term.Same(r.Left[0].Pattern, read(t, c.left)) || !term.Same(r.Right, read(t, c.right)) {
			t.Errorf("%s, %s: shared memory", c.left, c.right)
		}
	}
}

// TestGeneralizeOthers checks rules that are not valid or not simple (P46.5).
func TestGeneralizeOthers(t *testing.T) {
	base := func() api.Rule {
		return api.Rule{Name: "r", Left: []api.Atom{{Pattern: read(t, "(add ?x:4 0:4)")}}, Right: read(t, "?x:4")}
	}
	if _, ok := synth.Generalize(base()); !ok {
		t.Fatal("not generalized")
	}
	for i, change := range []func(r *api.Rule){
		func(r *api.Rule) { r.Name = "R" }, func(r *api.Rule) { r.Left = nil }, func(r *api.Rule) { r.Left[0].Pattern = read(t, "(add x:4 0:4)") }, func(r *api.Rule) { r.Right = read(t, "?y:4") }, func(r *api.Rule) { *r = api.Rule{} },
		func(r *api.Rule) { r.Left[0].Pattern.Args[0].Width = 5 }, func(r *api.Rule) { r.Left[0].Pattern.Args[1].Val = 16 },
		func(r *api.Rule) { r.Left[0].Root = "r" }, func(r *api.Rule) { r.Left = append(r.Left, api.Atom{Pattern: read(t, "?x:4")}) }, func(r *api.Rule) { r.Left = append(r.Left, api.Atom{Root: "y", Pattern: read(t, "(not ?x:4)")}) },
		func(r *api.Rule) {
			r.Guards = []api.Guard{{Kind: api.GuardEqual, A: read(t, "(not ?x:4)"), B: read(t, "(not ?x:4)")}}
		},
		func(r *api.Rule) { r.Guards = []api.Guard{{Kind: api.GuardPred, A: read(t, "(eq 1:4 1:4)")}} },
		func(r *api.Rule) {
			r.Guards = []api.Guard{{Kind: 9, A: read(t, "(eq 1:4 1:4)"), B: read(t, "(not x:3)")}}
		},
	} {
		r, want := base(), base()
		change(&r)
		change(&want)
		x, ok := synth.Generalize(r)
		if ok || !rule.Same(x, want) {
			t.Errorf("case %d: %v, %v", i, x, ok)
		}
		for k := range x.Left {
			spoil(x.Left[k].Pattern)
			x.Left[k].Root = "spoilt"
		}
		for k := range x.Guards {
			spoil(x.Guards[k].A)
			spoil(x.Guards[k].B)
			x.Guards[k].Kind = 77
		}
		if !rule.Same(r, want) {
			t.Errorf("case %d: shared memory", i)
		}
	}
}
