package pattern_test

import (
	"math"
	"slices"
	"strconv"
	"strings"
	"testing"

	"saturate/api"
	"saturate/pattern"
	"saturate/term"
	"saturate/termtext"
)

// read returns the pattern with a text.
func read(t *testing.T, s string) api.Term {
	t.Helper()
	p, e := termtext.Parse(s)
	if e != api.OK {
		t.Fatalf("%s: %d", s, e)
	}
	return p
}

func node(op api.Op, width int, args ...api.Term) api.Term {
	return api.Term{Op: op, Width: width, Args: args}
}

func hole(name string, width int) api.Term {
	return api.Term{Op: api.OpHole, Width: width, Name: name}
}

func num(name string, width int) api.Term {
	return api.Term{Op: api.OpNum, Width: width, Name: name}
}

func constant(width int, val uint64) api.Term {
	return api.Term{Op: api.OpConst, Width: width, Val: val}
}

// chain returns a pattern that consists of a hole and operators not, with the given number of nodes.
func chain(nodes int) api.Term {
	p := hole("a", 8)
	for range nodes - 1 {
		p = node(api.OpNot, 8, p)
	}
	return p
}

// tree returns a full binary tree of the given depth, whose nodes share memory.
func tree(depth int) api.Term {
	p := hole("a", 8)
	for range depth - 1 {
		p = node(api.OpAdd, 8, p, p)
	}
	return p
}

// manyHoles returns a sum of holes with different names, and nums if asked for.
func manyHoles(count int, nums int) api.Term {
	p := constant(8, 0)
	for i := range count {
		leaf := hole("h"+strconv.Itoa(i), 8)
		if i < nums {
			leaf = num(leaf.Name, 8)
		}
		p = node(api.OpAdd, 8, p, node(api.OpXor, 8, leaf, leaf))
	}
	return p
}

// valid has valid patterns, of which those that contain an eval need evals.
func valid(t *testing.T) []api.Term {
	var list []api.Term
	for _, s := range []string{
		"?a:8", "#c:8", "0:8", "?a:0", "#c:0", "17:0", "255:8", "(add ?a:8 ?a:8)", "(add ?a:0 1:0)", "(mul #c:0 (not ?a:0))", "(ite (eq ?a:0 17:0) ?b:0 (neg ?a:0))", "(ite ?a:1 ?b:0 ?b:0)", "(ult ?a:0 ?b:0)",
		"(concat ?a:8 ?b:56)", "(extract 4 4 ?a:8)", "(zext 64 ?a:8)", "(sext 8 #c:8)", "(slt (udiv ?a:8 #c:8) (urem ?a:8 #c:8))", "(shl ?a:8 (lshr ?b:8 (ashr ?a:8 #c:8)))", "(and (or ?a:8 ?b:8) (xor ?c:8 (sub ?d:8 ?e:8)))",
		"(eval 3:8)", "(add ?a:4 (eval (add #c:4 1:4)))", "(eval (add #c:0 (neg 1:0)))", "(add (eval #c:8) (eval #d:8))", "(and ?a:8 (concat (eval #c:4) (eval (not #c:4))))", "?abcdefghijklmnop:64", "#a_0:1",
	} {
		list = append(list, read(t, s))
	}
	list = append(list, chain(9), chain(64), tree(6), tree(12), manyHoles(16, 0), manyHoles(16, 16), manyHoles(16, 5))
	return append(list, constant(0, math.MaxUint64), constant(64, math.MaxUint64))
}

// needsEvals reports whether a pattern has an eval.
func needsEvals(p api.Term) bool {
	return strings.Contains(termtext.Print(p), "(eval ")
}

// TestCheck checks P24.1 for valid patterns.
func TestCheck(t *testing.T) {
	for _, p := range valid(t) {
		if e := pattern.Check(p, true); e != api.OK {
			t.Errorf("Check of %s is %d", termtext.Print(p), e)
		}
		want := api.OK
		if needsEvals(p) {
			want = api.ErrOp
		}
		if e := pattern.Check(p, false); e != want {
			t.Errorf("Check of %s without evals is %d, not %d", termtext.Print(p), e, want)
		}
	}
}

// invalid has patterns that are not valid, by what Check has to return.
func invalid() map[api.Errno][]api.Term {
	a, x := hole("a", 8), term.Var("x", 8)
	named, valued := node(api.OpNot, 8, a), node(api.OpAdd, 8, a, a)
	named.Name, valued.Val = "n", 1
	return map[api.Errno][]api.Term{
		api.ErrOp: {
			{}, {Op: 27, Width: 8}, {Op: -1, Width: 8}, {Op: math.MaxInt}, x, node(api.OpAdd, 8, a, x), node(api.OpEval, 8, x), {Op: api.OpVar}, node(api.OpNot, 8), node(api.OpNot, 8, a, a), node(api.OpAdd, 8, a), node(api.OpAdd, 8, a, a, a), node(api.OpIte, 8, a, a), node(api.OpHole, 8, a), node(api.OpConst, 8, a), node(api.OpEval, 8), node(api.OpEval, 8, constant(8, 1), constant(8, 1)),
			named, valued, {Op: api.OpConst, Width: 8, Name: "c"}, {Op: api.OpEval, Width: 8, Name: "c", Args: []api.Term{num("c", 8)}}, {Op: api.OpExtract, Width: 4, Name: "c", Args: []api.Term{a}}, {Op: api.OpHole, Width: 8, Name: "a", Val: 1}, {Op: api.OpNum, Width: 8, Name: "a", Val: 1}, {Op: api.OpZext, Width: 9, Val: 1, Args: []api.Term{a}}, {Op: api.OpEval, Width: 8, Val: 1, Args: []api.Term{num("c", 8)}},
		},
		api.ErrName: {hole("", 8), num("", 8), hole("A", 8), num("1", 8), hole("_a", 0), hole("abcdefghijklmnopq", 8), num("a b", 8), hole("A", -1), node(api.OpNot, 4, num("", 8)), node(api.OpEval, 8, hole("A", 8))},
		api.ErrWidth: {
			hole("a", -1), num("c", 65), hole("a", math.MaxInt), constant(-1, 0), constant(65, 0), constant(4, 16), node(api.OpNot, 4, a), node(api.OpNot, 0, a), node(api.OpNot, 8, hole("a", 0)), node(api.OpAdd, 0, hole("a", 0), hole("b", 8)), node(api.OpAdd, 8, a, hole("b", 4)), node(api.OpEq, 0, hole("a", 0), hole("b", 0)),
			node(api.OpConcat, 0, hole("a", 0), hole("b", 0)), node(api.OpConcat, 16, a, hole("b", 0)), node(api.OpZext, 8, hole("a", 0)), node(api.OpZext, 0, a), node(api.OpSext, 0, hole("a", 0)), node(api.OpExtract, 0, a), {Op: api.OpExtract, Width: 4, Val: 5, Args: []api.Term{a}}, node(api.OpIte, 0, hole("b", 0), hole("a", 0), hole("a", 0)), node(api.OpEval, 4, num("c", 8)), node(api.OpEval, 4, a),
		},
		api.ErrBind: {
			node(api.OpEval, 8, a), node(api.OpEval, 8, node(api.OpAdd, 8, num("c", 8), a)), node(api.OpEval, 8, node(api.OpEval, 8, num("c", 8))), node(api.OpEval, 8, node(api.OpNot, 8, node(api.OpNot, 8, node(api.OpEval, 8, constant(8, 1))))),
			node(api.OpConcat, 12, a, hole("a", 4)), node(api.OpConcat, 12, num("a", 8), num("a", 4)), node(api.OpAdd, 8, a, num("a", 8)), node(api.OpAdd, 8, num("a", 8), a), node(api.OpAdd, 8, a, node(api.OpEval, 8, num("a", 8))), node(api.OpConcat, 12, manyHoles(17, 0), hole("h9", 4)), node(api.OpIte, 0, node(api.OpEq, 1, a, a), hole("a", 0), hole("a", 0)),
		},
		api.ErrLong: {chain(65), chain(5000), tree(13), tree(100), node(api.OpAnd, 8, tree(12), a), {Args: make([]api.Term, 4096)}, manyHoles(17, 0), manyHoles(17, 17), manyHoles(17, 4), manyHoles(20, 10)},
	}
}

// TestCheckErrors checks P24.1 for patterns with one error.
func TestCheckErrors(t *testing.T) {
	for want, l := range invalid() {
		for i, p := range l {
			if e := pattern.Check(p, true); e != want {
				t.Errorf("Check of pattern %d with error %d is %d", i, want, e)
			}
		}
	}
	for _, s := range []string{"(eval ?a:4)", "(eval 3:4)", "(eval (add #c:4 1:4))"} {
		if e := pattern.Check(read(t, s), false); e != api.ErrOp {
			t.Errorf("Check of %s without evals is %d", s, e)
		}
	}
	if e := pattern.Check(read(t, "(eval ?a:4)"), true); e != api.ErrBind {
		t.Error("example 1:", e)
	}
}

// TestCheckOrder checks which of several errors P24.1 wants.
func TestCheckOrder(t *testing.T) {
	badOp, badName, badWidth := api.Term{}, hole("A", 8), constant(8, 256)
	badEval, bind := node(api.OpEval, 8, hole("a", 8)), node(api.OpConcat, 12, hole("a", 8), hole("a", 4))
	for i, c := range []struct {
		p    api.Term
		want api.Errno
	}{
		{node(api.OpAdd, 8, badName, badOp), api.ErrName}, {node(api.OpAdd, 8, badOp, badName), api.ErrOp}, {node(api.OpAdd, 8, badWidth, badOp), api.ErrWidth}, {node(api.OpAdd, 8, badEval, badOp), api.ErrBind}, {node(api.OpAdd, 8, badOp, badEval), api.ErrOp}, {node(api.OpAdd, 8, badEval, badName), api.ErrBind}, {node(api.OpAdd, 8, badEval), api.ErrBind},
		{node(api.OpEval, 8, badOp), api.ErrOp}, {node(api.OpEval, 4, badName), api.ErrName}, {node(api.OpEval, 4, hole("a", 8)), api.ErrWidth}, {api.Term{Op: api.OpEval, Width: 8, Val: 1, Args: []api.Term{hole("a", 8)}}, api.ErrOp}, {api.Term{Op: api.OpHole, Width: -1, Name: "A", Val: 1}, api.ErrOp}, {hole("A", -1), api.ErrName},
		{node(api.OpConcat, 20, bind, badOp), api.ErrOp}, {node(api.OpConcat, 20, bind, badWidth), api.ErrWidth}, {node(api.OpConcat, 20, bind, badEval), api.ErrBind}, {node(api.OpNot, 4, bind), api.ErrWidth},
		{node(api.OpNot, 8, chain(64)), api.ErrLong}, {node(api.OpAdd, 8, badOp, chain(64)), api.ErrLong}, {node(api.OpAdd, 8, badName, tree(12)), api.ErrLong}, {node(api.OpAdd, 8, badOp, manyHoles(17, 0)), api.ErrOp}, {node(api.OpAdd, 8, manyHoles(17, 0), badName), api.ErrName},
	} {
		if e := pattern.Check(c.p, true); e != c.want {
			t.Errorf("case %d: %d, not %d", i, e, c.want)
		}
	}
}

// TestHoles checks Holes and Nums of P24.2, for patterns that are not valid too.
func TestHoles(t *testing.T) {
	a8, a4, b8, c8 := api.Var{Name: "a", Width: 8}, api.Var{Name: "a", Width: 4}, api.Var{Name: "b", Width: 8}, api.Var{Name: "c", Width: 8}
	first := node(api.OpAdd, 8, hole("b", 8), node(api.OpEval, 8, num("c", 8)))
	args := api.Term{Op: api.OpHole, Width: 8, Name: "b", Args: []api.Term{hole("a", 4), hole("b", 9), num("c", 8)}}
	for i, c := range []struct {
		l           []api.Term
		holes, nums []api.Var
	}{
		{nil, nil, nil}, {[]api.Term{{}, constant(8, 1), term.Var("x", 8)}, nil, nil},
		{[]api.Term{first}, []api.Var{b8}, []api.Var{c8}}, {[]api.Term{first, first, hole("a", 8)}, []api.Var{a8, b8}, []api.Var{c8}},
		{[]api.Term{hole("a", 4), hole("a", 8)}, []api.Var{a4}, nil}, {[]api.Term{hole("a", 8), hole("a", 4)}, []api.Var{a8}, nil}, {[]api.Term{num("a", 8), hole("a", 4), num("a", 4)}, []api.Var{a4}, []api.Var{a8}},
		{[]api.Term{args}, []api.Var{a4, b8}, []api.Var{c8}}, {[]api.Term{node(api.OpNot, 8, args), hole("a", 8)}, []api.Var{a4, b8}, []api.Var{c8}}, {[]api.Term{hole("a", 8), args}, []api.Var{a8, b8}, []api.Var{c8}},
		{[]api.Term{{Op: api.OpHole}, {Op: api.OpNum, Width: -1, Name: "Any Name"}}, []api.Var{{}}, []api.Var{{Name: "Any Name", Width: -1}}}, {[]api.Term{{Op: 99, Args: []api.Term{first}}}, []api.Var{b8}, []api.Var{c8}},
	} {
		if h, n := pattern.Holes(c.l...), pattern.Nums(c.l...); !slices.Equal(h, c.holes) || !slices.Equal(n, c.nums) {
			t.Errorf("case %d: %v, %v, not %v, %v", i, h, n, c.holes, c.nums)
		}
	}
	many := pattern.Holes(manyHoles(12, 0))
	if len(many) != 12 || many[1].Name != "h1" || many[2].Name != "h10" || many[11].Name != "h9" {
		t.Error("the order of names:", many)
	}
	if h := pattern.Holes(read(t, "(add ?b:4 ?a:4)")); len(h) != 2 || h[0].Name != "a" || h[1] != (api.Var{Name: "b", Width: 4}) {
		t.Error("example 1:", h)
	}
}

// TestGeneric checks Generic and Ground of P24.2, for patterns that are not valid too.
func TestGeneric(t *testing.T) {
	for s, want := range map[string][2]bool{
		"?a:8": {false, false}, "?a:0": {true, false}, "#c:8": {false, false}, "#c:0": {true, false}, "x:8": {false, true}, "0:0": {true, true}, "1:8": {false, true}, "(eval 1:8)": {false, false}, "(not (eval 1:8))": {false, false},
		"(add x:8 1:8)": {false, true}, "(add x:8 (mul ?a:8 y:8))": {false, false}, "(add (mul (not ?a:8) y:8) x:8)": {false, false}, "(add (zext 8 (eq ?a:0 x:0)) (mul y:8 z:8))": {true, false}, "(eq 0:0 0:0)": {true, true}, "(eq ?a:0 0:0)": {true, false}, "(add x:8 (zext 8 (eq y:8 z:8)))": {false, true}, "(add x:8 (zext 8 (eq 1:0 2:0)))": {true, true},
	} {
		p := read(t, s)
		if pattern.Generic(p) != want[0] || pattern.Ground(p) != want[1] {
			t.Errorf("%s: %v, %v", s, pattern.Generic(p), pattern.Ground(p))
		}
	}
	if p := (api.Term{Op: 99, Width: 3, Args: []api.Term{{Op: 98, Width: -1}, {Op: 97, Width: 1, Args: []api.Term{hole("a", 1)}}}}); pattern.Generic(p) || pattern.Ground(p) {
		t.Error("an invalid pattern")
	}
	if p := (api.Term{}); !pattern.Generic(p) || !pattern.Ground(p) {
		t.Error("the zero pattern")
	}
}

// TestVariables checks Variables of P24.4.
func TestVariables(t *testing.T) {
	for s, want := range map[string]string{
		"?a:8": "a:8", "#c:0": "c:0", "5:8": "5:8", "x:8": "x:8", "(eval #c:8)": "c:8", "(eval (eval #c:8))": "c:8", "(add ?a:4 (eval (add #c:4 1:4)))": "(add a:4 (add c:4 1:4))", "(ite ?a:1 (eval (neg (eval ?b:8))) (extract 1 8 #c:9))": "(ite a:1 (neg b:8) (extract 1 8 c:9))",
	} {
		if p := pattern.Variables(read(t, s)); !term.Same(p, read(t, want)) {
			t.Errorf("Variables of %s is %s", s, termtext.Print(p))
		}
	}
	odd := api.Term{Op: api.OpEval, Width: 4, Name: "n", Args: []api.Term{hole("a", 8), {Op: api.OpNum, Val: 7, Args: []api.Term{node(api.OpEval, 3, num("c", 9))}}}}
	want := api.Term{Op: api.OpEval, Width: 4, Name: "n", Args: []api.Term{term.Var("a", 8), {Op: api.OpVar, Val: 7, Args: []api.Term{term.Var("c", 9)}}}}
	if p := pattern.Variables(odd); !term.Same(p, want) {
		t.Error("an eval with two operands:", p)
	}
	if p := pattern.Variables(api.Term{Op: api.OpEval}); !term.Same(p, api.Term{Op: api.OpEval}) {
		t.Error("an eval without operands:", p)
	}
	source := node(api.OpAdd, 8, hole("a", 8), term.Var("x", 8))
	result := pattern.Variables(source)
	result.Args[1].Name = "changed"
	if source.Args[1].Name != "x" || source.Args[0].Op != api.OpHole {
		t.Error("shared memory:", source)
	}
}

// TestLeast checks Least of P24.4 for all pairs.
func TestLeast(t *testing.T) {
	list := append(valid(t), invalid()[api.ErrWidth]...)
	for _, a := range list {
		for _, b := range list {
			if pattern.Least(a, b) != (term.Compare(a, b) == -1) {
				t.Errorf("Least of %s and %s", termtext.Print(a), termtext.Print(b))
			}
		}
	}
}
