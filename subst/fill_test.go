package subst_test

import (
	"fmt"
	"testing"

	"saturate/api"
	"saturate/subst"
	"saturate/term"
)

// TestFill checks P9.2 for patterns without errors.
func TestFill(t *testing.T) {
	for i, c := range []struct {
		p    api.Term
		subs []api.Sub
		want string
	}{
		{read("(add ?a:8 #c:8)"), subs("a", "(mul x:8 y:8)", "c", "4:8"), "(add (mul x:8 y:8) 4:8)"}, {read("?a:8"), subs("b", "1:8", "a", "x:8", "a", "2:8"), "x:8"}, {read("#a:8"), subs("a", "7:8"), "7:8"}, {read("?a:8"), subs("a", "7:8"), "7:8"},
		{read("(add x:8 1:8)"), subs("x", "2:8"), "(add x:8 1:8)"}, {read("(sub ?a:8 ?b:8)"), subs("a", "b:8", "b", "a:8"), "(sub b:8 a:8)"}, {read("(add ?a:8 ?a:8)"), subs("a", "(not x:8)"), "(add (not x:8) (not x:8))"},
		{read("(eval (add #c:8 #c:8))"), subs("c", "200:8"), "144:8"}, {read("(shl ?a:8 (eval (sub #c:8 1:8)))"), subs("a", "x:8", "c", "4:8"), "(shl x:8 3:8)"}, {read("(eval (eq #c:8 3:8))"), subs("c", "3:8"), "1:1"}, {read("(eval (concat #c:8 #d:4))"), subs("c", "1:8", "d", "2:4"), "18:12"},
		{read("(eval (eval (not #c:8)))"), subs("c", "3:8"), "252:8"}, {read("(add (eval 3:8) (eval (neg 1:8)))"), nil, "(add 3:8 255:8)"}, {read("(eval (add 1:8 (eval (mul #c:8 3:8))))"), subs("c", "5:8"), "16:8"},
		// The operand of an eval may be a term without variables.
		{read("(eval ?a:8)"), subs("a", "(add 1:8 2:8)"), "3:8"},
		// Before the operands are filled, the widths of inner nodes do not matter, nor does that of an eval.
		{node(api.OpEval, 3, read("(add #c:8 1:8)")), subs("c", "3:8"), "4:8"},
		{leaf(api.OpHole, "a", 8, read("?b:4")), subs("a", "x:8", "b", "y:4"), "x:8"}, {leaf(api.OpNum, "a", 8, read("(eval 3:4)")), subs("a", "9:8"), "9:8"},
	} {
		before, entries := term.Copy(c.p), copySubs(c.subs)
		if u, e := subst.Fill(c.p, c.subs); e != api.OK || !term.Same(u, read(c.want)) {
			t.Errorf("case %d: %v, %d, not %s", i, u, e, c.want)
		}
		if !term.Same(c.p, before) || !sameSubs(c.subs, entries) {
			t.Errorf("case %d: the arguments are changed", i)
		}
	}
}

// TestFillErrors checks the errors of P9.2 that single nodes have, and their order.
func TestFillErrors(t *testing.T) {
	ok := subs("a", "x:8", "c", "4:8", "v", "y:8", "n", "2:4", "e", "(eval 3:8)", "h", "?a:8", "u", "x:4")
	for i, c := range []struct {
		p    api.Term
		want api.Errno
	}{
		{read("?z:8"), api.ErrBind}, {read("#z:8"), api.ErrBind}, {leaf(api.OpHole, "", 8), api.ErrBind}, {read("?a:4"), api.ErrWidth}, {read("?a:0"), api.ErrWidth}, {read("#c:4"), api.ErrWidth}, {read("#v:4"), api.ErrWidth}, {read("#v:8"), api.ErrOp}, {read("#h:8"), api.ErrOp},
		// Postorder: the operands from left to right, and then their node.
		{read("(add ?z:8 ?a:8)"), api.ErrBind}, {node(api.OpAdd, 8, read("?a:4"), read("?z:8")), api.ErrWidth}, {node(api.OpAdd, 8, read("?z:8"), read("?a:4")), api.ErrBind}, {node(api.OpAdd, 8, read("#v:8"), read("?z:8")), api.ErrOp}, {node(api.OpAdd, 8, read("?z:8"), read("#v:8")), api.ErrBind}, {node(api.OpAdd, 8, read("(not #v:8)"), read("?a:4")), api.ErrOp},
		{leaf(api.OpHole, "z", 8, read("?a:4")), api.ErrWidth}, {leaf(api.OpHole, "a", 8, read("?z:4")), api.ErrBind}, {leaf(api.OpNum, "z", 8, read("#v:8")), api.ErrOp},
		// Evals, whose operands come before them.
		{node(api.OpEval, 8), api.ErrOp}, {node(api.OpEval, 8, read("1:8"), read("2:8")), api.ErrOp}, {node(api.OpEval, 8, read("1:8"), read("?z:8")), api.ErrBind}, {node(api.OpEval, 8, read("?a:4"), read("1:8")), api.ErrWidth}, {read("(eval ?a:8)"), api.ErrBind}, {read("(eval (add x:8 1:8))"), api.ErrBind}, {read("(eval (add #c:8 ?a:8))"), api.ErrBind},
		{node(api.OpEval, 8, node(api.OpAdd, 8, read("#c:8"), read("#n:4"))), api.ErrWidth}, {node(api.OpEval, 8, node(api.OpAdd, 8, read("#c:8"))), api.ErrOp}, {node(api.OpEval, 8, leaf(api.OpVar, "X", 8)), api.ErrName}, {node(api.OpEval, 8, node(api.OpConcat, 12, read("x:8"), read("x:4"))), api.ErrBind}, {read("(eval ?e:8)"), api.ErrOp}, {node(api.OpAdd, 8, read("(eval ?a:8)"), read("?a:4")), api.ErrBind},
		{node(api.OpAdd, 8, node(api.OpEval, 8, node(api.OpNot, 4, read("#c:8"))), read("?z:8")), api.ErrWidth}, {node(api.OpEval, 8, deepConst(65)), api.ErrLong},
		// What was filled in is no part of the pattern: its evals and holes stay.
		{read("?e:8"), api.ErrOp}, {read("?h:8"), api.ErrOp}, {read("(add ?a:8 (not ?e:8))"), api.ErrOp},
		// The errors of term.Check for the result, after all others.
		{node(api.OpAdd, 8, read("?a:8")), api.ErrOp}, {node(99, 8), api.ErrOp}, {node(api.OpAdd, 4, read("?a:8"), read("?a:8")), api.ErrWidth}, {node(api.OpAdd, 8, read("?a:8"), read("?n:4")), api.ErrWidth}, {leaf(api.OpVar, "X", 8), api.ErrName}, {read("(concat ?a:8 ?u:4)"), api.ErrBind}, {node(api.OpAdd, 8, leaf(api.OpVar, "X", 8), read("?z:8")), api.ErrBind}, {node(api.OpAdd, 9, read("?a:8"), read("?a:4")), api.ErrWidth}, {node(99, 8, read("?z:8")), api.ErrBind}, {leaf(api.OpAdd, "n", 8, read("?a:8"), read("?a:8")), api.ErrOp},
		{api.Term{}, api.ErrOp}, {deepConst(65), api.ErrLong}, {node(api.OpNot, 8, node(api.OpNot, 8, deepConst(63))), api.ErrLong}, {node(api.OpAdd, 8, read("?z:8"), deepConst(65)), api.ErrBind},
	} {
		if u, e := subst.Fill(c.p, ok); e != c.want || !term.Same(u, api.Term{}) {
			t.Errorf("case %d: %v, %d, not %d", i, u, e, c.want)
		}
	}
}

// deepConst returns a term of a depth, without variables.
func deepConst(depth int) api.Term {
	t := read("1:8")
	for range depth - 1 {
		t = node(api.OpNot, 8, t)
	}
	return t
}

// TestFillLimits checks that only the result of Fill keeps to the limits (P9.2).
func TestFillLimits(t *testing.T) {
	entry := func(u api.Term) []api.Sub { return []api.Sub{{Name: "a", Term: u}} }
	for depth, want := range map[int]api.Errno{63: api.OK, 64: api.ErrLong} {
		if u, e := subst.Fill(read("(not ?a:8)"), entry(deepConst(depth))); e != want || e == api.OK && term.Depth(u) != 64 {
			t.Errorf("an entry of depth %d: %d", depth, e)
		}
	}
	// An eval makes a deep operand small, as long as it is a valid term.
	if u, e := subst.Fill(node(api.OpNot, 8, node(api.OpEval, 8, deepConst(64))), nil); e != api.OK || !term.Same(u, read("(not 254:8)")) {
		t.Error(u, e)
	}
	tree := func(depth int, leaf api.Term) api.Term {
		for range depth - 1 {
			leaf = node(api.OpAdd, 8, leaf, leaf)
		}
		return leaf
	}
	// 4095 nodes, and 1 + 4 * 1024 - 1 with 1024 leaves of 3 nodes.
	for i, c := range []struct {
		p, u api.Term
		want api.Errno
	}{
		{tree(12, read("?a:8")), read("x:8"), api.OK}, {node(api.OpNot, 8, tree(12, read("?a:8"))), read("x:8"), api.OK}, {tree(11, read("?a:8")), read("(add x:8 y:8)"), api.OK}, {node(api.OpNot, 8, node(api.OpNot, 8, tree(12, read("?a:8")))), read("x:8"), api.ErrLong}, {tree(12, read("?a:8")), read("(not x:8)"), api.ErrLong}, {tree(11, read("?a:8")), tree(11, read("x:8")), api.ErrLong},
	} {
		if _, e := subst.Fill(c.p, entry(c.u)); e != c.want {
			t.Errorf("case %d: %d, not %d", i, e, c.want)
		}
	}
	many := read("0:8")
	var l []api.Sub
	for i := range 60 {
		many = node(api.OpXor, 8, leaf(api.OpHole, fmt.Sprint("h", i), 8), many)
		l = append(l, api.Sub{Name: fmt.Sprint("h", i), Term: term.Const(8, uint64(i))})
	}
	if u, e := subst.Fill(node(api.OpEval, 8, many), l); e != api.OK || !term.Same(u, read("0:8")) {
		t.Error("many holes:", u, e)
	}
}
