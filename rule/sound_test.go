package rule_test

import (
	"math"
	"slices"
	"testing"

	"saturate/api"
	"saturate/rule"
	"saturate/term"
	"saturate/termtext"
)

// TestEquation checks Equation of P28.4.
func TestEquation(t *testing.T) {
	for i, x := range []struct {
		r           api.Rule
		hyps        []string
		left, right string
	}{
		{read(t, "(add ?a:4 #c:4)", "(eval (not #c:4))"), nil, "(add a:4 c:4)", "(not c:4)"},
		{read(t, "(sub ?x:3 ?y:3); x = (add ?y:3 ?z:3)", "?z:3"), []string{"(eq x:3 (add y:3 z:3))"}, "(sub x:3 y:3)", "z:3"},
		{read(t, "r = (zext 8 ?a:4); (not ?b:2); s = #c:5; t = ?r:8", "(add ?r:8 (eval (zext 8 #c:5)))", "below ?a:4, 9:4", "if (ult #c:5 3:5)", "zeros ?b:2, (not 1:2)", "equal ?r:8, (zext 8 #c:5)"),
			[]string{"(eq r:8 (zext 8 a:4))", "(eq s:5 c:5)", "(eq t:8 r:8)", "(ult a:4 9:4)", "(ult c:5 3:5)", "(eq (and b:2 (not 1:2)) 0:2)", "(eq r:8 (zext 8 c:5))"}, "(zext 8 a:4)", "(add r:8 (zext 8 c:5))"},
		{read(t, "r = (not ?a:0)", "?r:0", "zeros ?a:0, 1:0"), []string{"(eq r:0 (not a:0))", "(eq (and a:0 1:0) 0:0)"}, "(not a:0)", "r:0"},
	} {
		hyps, left, right := rule.Equation(x.r)
		var texts []string
		for _, h := range hyps {
			texts = append(texts, termtext.Print(h))
		}
		if !slices.Equal(texts, x.hyps) || termtext.Print(left) != x.left || termtext.Print(right) != x.right {
			t.Errorf("case %d: %v, %s, %s", i, texts, termtext.Print(left), termtext.Print(right))
		}
	}
	rule.Equation(api.Rule{})
	rule.Equation(api.Rule{Right: pattern(t, "1:4"), Guards: []api.Guard{{Kind: 7}}})
}

// TestSound checks Sound of P28.4.
func TestSound(t *testing.T) {
	for i, x := range []struct {
		r    api.Rule
		ok   bool
		at   []api.Bind
		want api.Errno
	}{
		{read(t, "(add ?a:4 ?a:4)", "(shl ?a:4 1:4)"), true, nil, api.OK},
		{read(t, "(add ?a:4 ?b:4)", "?a:4"), false, []api.Bind{{Name: "a"}, {Name: "b", Val: 1}}, api.OK},
		{read(t, "(sub ?b:2 ?a:2)", "(sub ?a:2 ?b:2)"), false, []api.Bind{{Name: "a", Val: 1}, {Name: "b"}}, api.OK},
		{read(t, "1:4", "2:4"), false, nil, api.OK}, {read(t, "3:4", "3:4"), true, nil, api.OK},
		{read(t, "(udiv ?a:4 #c:4)", "?a:4", "if (eq #c:4 1:4)"), true, nil, api.OK}, {read(t, "(udiv ?a:4 #c:4)", "?a:4", "if (ult #c:4 2:4)"), false, []api.Bind{{Name: "a"}, {Name: "c"}}, api.OK},
		{read(t, "(and ?a:4 #c:4)", "0:4", "zeros ?a:4, #c:4"), true, nil, api.OK}, {read(t, "(and ?a:4 #c:4)", "0:4", "zeros ?a:4, (and 3:4 #c:4)"), false, []api.Bind{{Name: "a", Val: 4}, {Name: "c", Val: 4}}, api.OK},
		{read(t, "(urem ?a:4 #c:4)", "?a:4", "below ?a:4, #c:4"), true, nil, api.OK}, {read(t, "(urem ?a:4 ?c:4)", "?a:4", "equal (urem ?a:4 ?c:4), ?a:4"), true, nil, api.OK},
		{read(t, "(ult ?a:4 8:4)", "1:1", "below ?a:4, 8:4"), true, nil, api.OK}, {read(t, "(ult ?a:4 8:4)", "1:1", "below ?a:4, 9:4"), false, []api.Bind{{Name: "a", Val: 8}}, api.OK},
		{read(t, "(sub ?x:3 ?y:3); x = (add ?y:3 ?z:3)", "?z:3"), true, nil, api.OK}, {read(t, "(sub ?x:3 ?y:3); x = (add ?z:3 ?z:3)", "?z:3"), false, []api.Bind{{Name: "x"}, {Name: "y", Val: 1}, {Name: "z"}}, api.OK},
		{read(t, "r = (not ?a:2)", "?r:2"), true, nil, api.OK}, {read(t, "r = (not ?a:2)", "?a:2"), false, []api.Bind{{Name: "a", Val: 3}, {Name: "r"}}, api.OK},
		// An atom without a Root says nothing, and its names are not assigned.
		{read(t, "(not ?a:2); (add ?b:16 ?c:16)", "(sub 3:2 ?a:2)"), true, nil, api.OK}, {read(t, "(not ?a:2); (add ?b:16 ?c:16)", "?a:2"), false, []api.Bind{{Name: "a"}}, api.OK},
		// No assignment satisfies the guards.
		{read(t, "?a:4", "(not ?a:4)", "below ?a:4, 0:4"), true, nil, api.OK},
		// evals
		{read(t, "(add #c:4 #d:4)", "(eval (add #c:4 #d:4))"), true, nil, api.OK}, {read(t, "(add #c:4 #d:4)", "(eval (or #c:4 #d:4))"), false, []api.Bind{{Name: "c", Val: 1}, {Name: "d", Val: 1}}, api.OK},
		// errors
		{read(t, "?a:4", "?b:4"), false, nil, api.ErrBind}, {api.Rule{}, false, nil, api.ErrName}, {read(t, "(add ?a:0 0:0)", "?a:0"), false, nil, api.ErrWidth}, {read(t, "1:1", "1:1", "if (eq 1:0 1:0)"), false, nil, api.ErrWidth}, {read(t, "?a:0", "?b:0"), false, nil, api.ErrBind},
		{read(t, "(not ?a:17)", "(not ?a:17)"), false, nil, api.ErrLong}, {read(t, "(add ?a:8 ?b:8)", "(add ?b:8 ?a:8)"), true, nil, api.OK}, {read(t, "r = (add ?a:8 ?b:8)", "?r:8"), false, nil, api.ErrLong}, {read(t, "(add ?a:8 ?b:8); (not ?c:1)", "?a:8", "zeros ?c:1, 1:1"), false, nil, api.ErrLong},
	} {
		ok, at, e := rule.Sound(x.r)
		if ok != x.ok || !slices.Equal(at, x.at) || e != x.want {
			t.Errorf("case %d: %v, %v, %d", i, ok, at, e)
		}
	}
	// The equation of a valid rule can be too deep or too large.
	deep, large := pattern(t, "?a:4"), pattern(t, "?a:4")
	for range api.MaxDepth - 1 {
		deep = term.Make(api.OpNot, deep)
	}
	for range 11 {
		large = term.Make(api.OpAnd, large, large)
	}
	for i, p := range []api.Term{deep, large} {
		r := api.Rule{Name: "r", Left: []api.Atom{{Pattern: p}}, Right: p}
		if ok, _, e := rule.Sound(r); !ok || e != api.OK {
			t.Error(i, e)
		}
		r.Left[0].Root = "r"
		if ok, _, e := rule.Sound(r); ok || e != api.ErrLong || rule.Check(r) != api.OK {
			t.Error(i, e)
		}
	}
}

// TestSoundUpTo checks SoundUpTo of P28.4.
func TestSoundUpTo(t *testing.T) {
	for i, x := range []struct {
		r    api.Rule
		w    int
		ok   bool
		at   int
		want api.Errno
	}{
		{read(t, "(add ?a:0 ?a:0)", "(shl ?a:0 1:0)"), 8, true, 0, api.OK}, {read(t, "(shl ?a:0 #c:0)", "(mul ?a:0 (eval (shl 1:0 #c:0)))"), 8, true, 0, api.OK},
		{read(t, "(mul ?a:0 ?a:0)", "?a:0"), 1, true, 0, api.OK}, {read(t, "(mul ?a:0 ?a:0)", "?a:0"), 2, false, 2, api.OK}, {read(t, "(mul ?a:0 ?a:0)", "?a:0"), 8, false, 2, api.OK}, {read(t, "?a:0", "(not ?a:0)"), 8, false, 1, api.OK},
		{read(t, "(ult ?a:0 100:0)", "1:1", "if (ult 4:0 2:0)"), 8, false, 2, api.OK}, {read(t, "(and ?a:0 127:0)", "?a:0"), 7, true, 0, api.OK}, {read(t, "(and ?a:0 127:0)", "?a:0"), 8, false, 8, api.OK},
		// The width is clamped.
		{read(t, "(and ?a:0 127:0)", "?a:0"), 9, false, 8, api.OK}, {read(t, "(and ?a:0 127:0)", "?a:0"), math.MaxInt, false, 8, api.OK}, {read(t, "(and ?a:0 255:0)", "?a:0"), 64, true, 0, api.OK},
		{read(t, "?a:0", "(not ?a:0)"), 0, false, 1, api.OK}, {read(t, "?a:0", "(not ?a:0)"), math.MinInt, false, 1, api.OK}, {read(t, "(mul ?a:0 ?a:0)", "?a:0"), -5, true, 0, api.OK}, {read(t, "(mul ?a:0 ?a:0)", "?a:0"), 0, true, 0, api.OK},
		// The first width with an error counts if no smaller one has a counterexample.
		{read(t, "(add ?a:0 (add ?b:0 ?c:0))", "(add (add ?a:0 ?b:0) ?c:0)"), 5, true, 0, api.OK}, {read(t, "(add ?a:0 (add ?b:0 ?c:0))", "(add (add ?a:0 ?b:0) ?c:0)"), 8, false, 6, api.ErrLong}, {read(t, "(add ?a:0 (add ?b:0 ?c:0))", "(add ?a:0 ?b:0)"), 8, false, 1, api.OK}, {read(t, "(and (add ?a:0 (add ?b:0 ?c:0)) 15:0)", "(add (add ?a:0 ?b:0) ?c:0)"), 8, false, 5, api.OK}, {read(t, "(and (add ?a:0 (add ?b:0 ?c:0)) 31:0)", "(add (add ?a:0 ?b:0) ?c:0)"), 8, false, 6, api.ErrLong},
		{read(t, "(ult (zext 20 ?a:17) (zext 20 ?b:2))", "1:1", "equal ?b:2, ?b:2", "if (eq 1:0 1:0)"), 3, false, 1, api.ErrLong},
		// A rule that is not generic is verified once.
		{read(t, "(add ?a:4 0:4)", "?a:4"), 8, true, 0, api.OK}, {read(t, "(add ?a:4 0:4)", "?a:4"), -8, true, 0, api.OK}, {read(t, "(add ?a:4 ?b:4)", "?a:4"), 8, false, 1, api.OK}, {read(t, "(add ?a:9 ?b:9)", "(add ?b:9 ?a:9)"), 8, false, 1, api.ErrLong},
		// the errors of Check
		{read(t, "?a:0", "?b:0"), 8, false, 1, api.ErrBind}, {read(t, "?a:4", "x:4"), 3, false, 1, api.ErrOp}, {api.Rule{}, 0, false, 1, api.ErrName},
	} {
		ok, at, e := rule.SoundUpTo(x.r, x.w)
		if ok != x.ok || at != x.at || e != x.want {
			t.Errorf("case %d: %v, %d, %d", i, ok, at, e)
		}
	}
}
