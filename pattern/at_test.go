package pattern_test

import (
	"math"
	"testing"

	"saturate/api"
	"saturate/pattern"
	"saturate/term"
	"saturate/termtext"
)

// TestAt checks P24.3.
func TestAt(t *testing.T) {
	for i, c := range []struct {
		p    string
		w    int
		want string
	}{
		{"(add ?a:0 1:0)", 4, "(add ?a:4 1:4)"}, {"?a:0", 64, "?a:64"}, {"#c:0", 1, "#c:1"}, {"17:0", 4, "1:4"}, {"17:0", 5, "17:5"}, {"18446744073709551615:0", 1, "1:1"}, {"18446744073709551615:0", 64, "18446744073709551615:64"}, {"18446744073709551615:0", 63, "9223372036854775807:63"},
		{"?a:8", 4, "?a:8"}, {"17:8", 4, "17:8"}, {"x:0", 4, "x:4"}, {"(add ?a:8 ?b:8)", 4, "(add ?a:8 ?b:8)"}, {"(ite (eq ?a:0 17:0) ?b:0 (not ?a:0))", 4, "(ite (eq ?a:4 1:4) ?b:4 (not ?a:4))"}, {"(eval (neg #c:0))", 9, "(eval (neg #c:9))"}, {"(ite ?a:1 3:0 ?b:0)", 1, "(ite ?a:1 1:1 ?b:1)"},
		{"(add ?b:8 (zext 8 (eq ?a:0 0:0)))", 3, "(add ?b:8 (zext 8 (eq ?a:3 0:3)))"},
	} {
		p, e := pattern.At(read(t, c.p), c.w)
		if e != api.OK || !term.Same(p, read(t, c.want)) {
			t.Errorf("case %d: %s, %d, not %s", i, termtext.Print(p), e, c.want)
		}
	}
}

// TestAtOdd checks P24.3 for patterns that are not valid: only widths are changed, and consts of the generic width.
func TestAtOdd(t *testing.T) {
	a := hole("a", 0)
	for i, c := range []struct{ p, want api.Term }{
		{api.Term{}, api.Term{Width: 4}}, {api.Term{Op: api.OpAdd, Val: 77}, api.Term{Op: api.OpAdd, Width: 4, Val: 77}}, {api.Term{Op: 99, Name: "n"}, api.Term{Op: 99, Width: 4, Name: "n"}}, {api.Term{Op: api.OpHole, Val: 77}, api.Term{Op: api.OpHole, Width: 4, Val: 77}}, {constant(-1, 77), constant(-1, 77)}, {constant(65, 77), constant(65, 77)}, {constant(4, 77), constant(4, 77)},
		{node(api.OpAdd, 0, a, hole("b", 4)), node(api.OpAdd, 4, hole("a", 4), hole("b", 4))}, {node(api.OpConcat, 0, a, a), node(api.OpConcat, 8, hole("a", 4), hole("a", 4))}, {node(api.OpZext, 4, a), node(api.OpZext, 4, hole("a", 4))}, {api.Term{Op: api.OpExtract, Width: 2, Val: 2, Args: []api.Term{a}}, api.Term{Op: api.OpExtract, Width: 2, Val: 2, Args: []api.Term{hole("a", 4)}}},
		{node(api.OpNot, 9, a), node(api.OpNot, 4, hole("a", 4))}, {node(api.OpEq, 0, a, a), node(api.OpEq, 1, hole("a", 4), hole("a", 4))}, {node(api.OpAdd, -5, a, hole("A", 4)), node(api.OpAdd, 4, hole("a", 4), hole("A", 4))}, {api.Term{Op: api.OpNot, Val: 3, Name: "n", Args: []api.Term{a}}, api.Term{Op: api.OpNot, Width: 4, Val: 3, Name: "n", Args: []api.Term{hole("a", 4)}}}, {node(api.OpEval, 1, node(api.OpEval, 2, a)), node(api.OpEval, 4, node(api.OpEval, 4, hole("a", 4)))},
	} {
		if p, e := pattern.At(c.p, 4); e != api.OK || !term.Same(p, c.want) {
			t.Errorf("case %d: %v, %d, not %v", i, p, e, c.want)
		}
	}
	source := node(api.OpAdd, 0, a, node(api.OpNot, 0, a))
	p, _ := pattern.At(source, 4)
	p.Args[0].Name, p.Args[1].Args[0].Name = "changed", "changed"
	if source.Args[0].Name != "a" || source.Args[1].Args[0].Name != "a" || source.Args[0].Width != 0 {
		t.Error("shared memory:", source)
	}
}

// TestAtErrors checks the errors of P24.3.
func TestAtErrors(t *testing.T) {
	a := hole("a", 0)
	bad := node(api.OpAdd, 0, a, hole("b", 3))
	for i, c := range []struct {
		p    api.Term
		w    int
		want api.Errno
	}{
		{a, 0, api.ErrRange}, {a, -1, api.ErrRange}, {a, 65, api.ErrRange}, {a, math.MinInt, api.ErrRange}, {a, math.MaxInt, api.ErrRange}, {bad, 0, api.ErrRange}, {bad, 65, api.ErrRange},
		{bad, 4, api.ErrWidth}, {node(api.OpNot, 0, bad), 4, api.ErrWidth}, {node(api.OpIte, 0, hole("c", 1), a, bad), 4, api.ErrWidth}, {node(api.OpIte, 0, a, a, a), 4, api.ErrWidth}, {node(api.OpConcat, 0, a, a), 33, api.ErrWidth}, {node(api.OpZext, 8, a), 9, api.ErrWidth}, {node(api.OpZext, 0, a), 4, api.ErrWidth}, {node(api.OpSext, 65, a), 4, api.ErrWidth}, {api.Term{Op: api.OpExtract, Width: 2, Val: 3, Args: []api.Term{a}}, 4, api.ErrWidth},
		{node(api.OpNot, 0, a, a), 4, api.ErrWidth}, {node(api.OpHole, 0, a), 4, api.ErrWidth}, {node(api.OpConst, 0, a), 4, api.ErrWidth}, {node(99, 0, a), 4, api.ErrWidth}, {node(api.NoOp, 0, a), 4, api.ErrWidth}, {node(api.OpNot, 4, hole("a", -1)), 4, api.ErrWidth}, {node(api.OpNot, 4, constant(65, 0)), 4, api.ErrWidth},
	} {
		if p, e := pattern.At(c.p, c.w); e != c.want || !term.Same(p, api.Term{}) {
			t.Errorf("case %d: %v, %d, not %d", i, p, e, c.want)
		}
	}
}

// TestAtValid checks P24.5 for all widths.
func TestAtValid(t *testing.T) {
	for _, p := range valid(t) {
		for w := 1; w <= 64; w++ {
			q, e := pattern.At(p, w)
			switch {
			case e != api.OK:
				if !pattern.Generic(p) {
					t.Errorf("At of %s and %d is %d", termtext.Print(p), w, e)
				}
			case !pattern.Generic(p) && !term.Same(p, q):
				t.Errorf("At of %s and %d is %s", termtext.Print(p), w, termtext.Print(q))
			case pattern.Check(q, true) != api.OK || pattern.Generic(q):
				t.Errorf("At of %s and %d is %s, which is not valid", termtext.Print(p), w, termtext.Print(q))
			}
		}
	}
}
