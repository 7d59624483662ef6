package eval_test

import (
	"math"
	"slices"
	"testing"

	"saturate/api"
	"saturate/bits"
	"saturate/enum"
	"saturate/eval"
	"saturate/opinfo"
	"saturate/term"
)

// binary returns the functions of chapter 1 for operators with two operands of one width.
func binary() map[api.Op]func(w int, a, b uint64) uint64 {
	return map[api.Op]func(w int, a, b uint64) uint64{
		api.OpAnd: bits.And, api.OpOr: bits.Or, api.OpXor: bits.Xor, api.OpAdd: bits.Add, api.OpSub: bits.Sub, api.OpMul: bits.Mul, api.OpUdiv: bits.Udiv, api.OpUrem: bits.Urem,
		api.OpShl: bits.Shl, api.OpLshr: bits.Lshr, api.OpAshr: bits.Ashr, api.OpEq: bits.Eq, api.OpUlt: bits.Ult, api.OpSlt: bits.Slt,
	}
}

// some returns values of width w and greater ones, which have to be reduced.
func some(w int) []uint64 {
	top := uint64(1) << (w - 1)
	return []uint64{0, 1, 2, 3, 5, top - 1, top, top + 1, 2*top - 2, 2*top - 1, 2 * top, 2*top + 1, 3*top + 1, uint64(w), math.MaxUint64, 0x123456789abcdef}
}

// wantApply fails the test if Apply returns anything but a value.
func wantApply(t *testing.T, want uint64, op api.Op, width int, val uint64, args ...api.Word) {
	t.Helper()
	if x, e := eval.Apply(op, width, val, args); x != want || e != api.OK {
		t.Fatalf("Apply(%s, %d, %d, %v) is %d, %d, not %d", opinfo.Name(op), width, val, args, x, e, want)
	}
}

// TestApplySameWidth checks P8.1 for operators whose operands have one width. The width and the value are ignored.
func TestApplySameWidth(t *testing.T) {
	for w := 1; w <= 64; w++ {
		for _, a := range some(w) {
			x := api.Word{Width: w, Val: a}
			wantApply(t, bits.Not(w, a), api.OpNot, 0, 0, x)
			wantApply(t, bits.Neg(w, a), api.OpNeg, -5, 99, x)
			for _, b := range some(w) {
				for op, f := range binary() {
					wantApply(t, f(w, a, b), op, 0, 0, x, api.Word{Width: w, Val: b})
				}
			}
		}
		wantApply(t, bits.Add(w, 1, 1), api.OpAdd, 77, math.MaxUint64, api.Word{Width: w, Val: 1}, api.Word{Width: w, Val: 1})
	}
	wantApply(t, 12, api.OpAshr, 0, 0, api.Word{Width: 4, Val: 24}, api.Word{Width: 4, Val: 17})
	wantApply(t, 3, api.OpShl, 0, 0, api.Word{Width: 4, Val: 3}, api.Word{Width: 4, Val: 16})
}

// TestApplyOtherWidths checks P8.1 for the other operators.
func TestApplyOtherWidths(t *testing.T) {
	for w := 1; w <= 64; w++ {
		for _, a := range some(w) {
			x := api.Word{Width: w, Val: a}
			if a <= bits.Mask(w) {
				wantApply(t, a, api.OpConst, w, a)
			}
			for _, c := range []uint64{0, 1, 2, 3, math.MaxUint64 - 1, math.MaxUint64} {
				want := bits.Cut(w, a)
				if c%2 == 0 {
					want = bits.Cut(w, 6)
				}
				wantApply(t, want, api.OpIte, 0, 0, api.Word{Width: 1, Val: c}, x, api.Word{Width: w, Val: 6})
			}
			for v := 1; v <= 64-w; v++ {
				wantApply(t, bits.Concat(w, v, a, 0x5555_5555_5555_5555), api.OpConcat, 0, 0, x, api.Word{Width: v, Val: 0x5555_5555_5555_5555})
			}
			for v := w; v <= 64; v++ {
				wantApply(t, bits.Cut(w, a), api.OpZext, v, 0, x)
				wantApply(t, bits.Sext(w, v, a), api.OpSext, v, 0, x)
			}
			for v := 1; v <= w; v++ {
				for low := range w - v + 1 {
					wantApply(t, bits.Extract(low, v, a), api.OpExtract, v, uint64(low), x)
				}
			}
		}
	}
	wantApply(t, 5, api.OpExtract, 3, 2, api.Word{Width: 8, Val: 0xb4})
	wantApply(t, 0, api.OpExtract, 1, 7, api.Word{Width: 8, Val: 0x174})
	wantApply(t, 252, api.OpSext, 8, 0, api.Word{Width: 4, Val: 28})
}

// words returns operands of value 1.
func words(widths ...int) []api.Word {
	var l []api.Word
	for _, w := range widths {
		l = append(l, api.Word{Width: w, Val: 1})
	}
	return l
}

// TestApplyErrors checks the errors of P8.1, and their order.
func TestApplyErrors(t *testing.T) {
	for i, c := range []struct {
		op    api.Op
		width int
		val   uint64
		args  []api.Word
		want  api.Errno
	}{
		{0, 8, 0, nil, api.ErrOp}, {-1, 8, 0, nil, api.ErrOp}, {27, 8, 0, words(8, 8), api.ErrOp}, {math.MaxInt, 8, 0, words(8), api.ErrOp}, {api.OpAdd, 8, 0, words(8), api.ErrOp}, {api.OpAdd, 8, 0, words(0), api.ErrOp}, {api.OpNot, 8, 0, nil, api.ErrOp}, {api.OpConst, 8, 1, words(8), api.ErrOp}, {api.OpIte, 8, 0, words(1, 8, 8, 8), api.ErrOp}, {api.OpAdd, 8, 0, words(65, 65, 65), api.ErrOp},
		{api.OpVar, 8, 0, nil, api.ErrOp}, {api.OpVar, 0, 0, nil, api.ErrOp}, {api.OpVar, 65, 0, nil, api.ErrWidth}, {api.OpVar, -1, 0, nil, api.ErrWidth}, {api.OpHole, 8, 0, nil, api.ErrOp}, {api.OpHole, 0, 0, nil, api.ErrOp}, {api.OpHole, 65, 0, nil, api.ErrWidth}, {api.OpNum, 8, 0, nil, api.ErrOp}, {api.OpNum, 0, 0, nil, api.ErrOp}, {api.OpNum, -1, 0, nil, api.ErrWidth},
		{api.OpEval, 8, 0, words(8), api.ErrOp}, {api.OpEval, 8, 0, words(0), api.ErrOp}, {api.OpEval, 8, 0, words(65), api.ErrWidth}, {api.OpEval, 8, 0, nil, api.ErrOp},
		{api.OpConst, 0, 0, nil, api.ErrWidth}, {api.OpConst, 0, 5, nil, api.ErrWidth}, {api.OpConst, 65, 0, nil, api.ErrWidth}, {api.OpConst, -1, 0, nil, api.ErrWidth}, {api.OpConst, 4, 16, nil, api.ErrWidth}, {api.OpConst, 63, 1 << 63, nil, api.ErrWidth},
		{api.OpNot, 8, 0, words(0), api.ErrWidth}, {api.OpNeg, 8, 0, words(-1), api.ErrWidth}, {api.OpNot, 8, 0, words(65), api.ErrWidth}, {api.OpAdd, 8, 0, words(8, 4), api.ErrWidth}, {api.OpAdd, 8, 0, words(0, 0), api.ErrWidth}, {api.OpAdd, 8, 0, words(8, 0), api.ErrWidth}, {api.OpEq, 8, 0, words(0, 0), api.ErrWidth}, {api.OpUlt, 1, 0, words(8, 9), api.ErrWidth}, {api.OpSlt, 1, 0, words(math.MinInt, math.MinInt), api.ErrWidth},
		{api.OpIte, 8, 0, words(8, 8, 8), api.ErrWidth}, {api.OpIte, 8, 0, words(1, 0, 0), api.ErrWidth}, {api.OpIte, 8, 0, words(0, 8, 8), api.ErrWidth}, {api.OpIte, 8, 0, words(1, 8, 4), api.ErrWidth}, {api.OpConcat, 8, 0, words(60, 5), api.ErrWidth}, {api.OpConcat, 8, 0, words(0, 5), api.ErrWidth},
		{api.OpExtract, 4, 5, words(8), api.ErrWidth}, {api.OpExtract, 4, math.MaxUint64, words(8), api.ErrWidth}, {api.OpExtract, 0, 0, words(8), api.ErrWidth}, {api.OpExtract, 0, 0, words(0), api.ErrWidth}, {api.OpExtract, 9, 0, words(8), api.ErrWidth}, {api.OpZext, 7, 0, words(8), api.ErrWidth}, {api.OpZext, 65, 0, words(8), api.ErrWidth}, {api.OpZext, 0, 0, words(0), api.ErrWidth}, {api.OpSext, 8, 0, words(0), api.ErrWidth},
	} {
		if x, e := eval.Apply(c.op, c.width, c.val, c.args); x != 0 || e != c.want {
			t.Errorf("case %d: Apply(%d, %d, %d, %v) is %d, %d, not %d", i, c.op, c.width, c.val, c.args, x, e, c.want)
		}
	}
	args := []api.Word{{Width: 4, Val: 99}, {Width: 4, Val: 50}}
	if x, e := eval.Apply(api.OpAdd, 0, 0, args); x != 5 || e != api.OK || args[0].Val != 99 || args[1].Val != 50 {
		t.Error("the arguments are changed:", args, x, e)
	}
}

var (
	x = term.Var("x", 2)
	y = term.Var("y", 1)
	z = term.Var("z", 3)
)

// resized returns a node whose operator needs a width.
func resized(op api.Op, width int, low uint64, t api.Term) api.Term {
	return api.Term{Op: op, Width: width, Val: low, Args: []api.Term{t}}
}

// someTerms returns valid terms over x, y and z with all operators, and some without variables.
func someTerms() []api.Term {
	g := api.Grammar{Consts: []api.Word{{Width: 1, Val: 1}, {Width: 2, Val: 2}}, Size: 4, Most: 1200}
	for op := api.OpNot; op <= api.OpConcat; op++ {
		g.Ops = append(g.Ops, op)
	}
	terms, _ := enum.Terms(g)
	g.Vars = []api.Var{{Name: "x", Width: 2}, {Name: "y", Width: 1}, {Name: "z", Width: 3}}
	more, _ := enum.Terms(g)
	terms = append(terms, more...)
	for i, t := range slices.Clone(terms) {
		if i%5 == 0 {
			u := resized(api.OpExtract, 1+i%t.Width, uint64(i/7%(t.Width-i%t.Width)), t)
			terms = append(terms, u, resized(api.OpZext, t.Width+i%9, 0, t), resized(api.OpSext, t.Width+i%9, 0, u), term.Make(api.OpConcat, t, x), term.Make(api.OpIte, y, t, t))
		}
	}
	return terms
}

// value evaluates a valid term by Apply.
func value(t *testing.T, u api.Term, env map[string]uint64) uint64 {
	if u.Op == api.OpVar {
		return bits.Cut(u.Width, env[u.Name])
	}
	var args []api.Word
	for _, arg := range u.Args {
		args = append(args, api.Word{Width: arg.Width, Val: value(t, arg, env)})
	}
	v, e := eval.Apply(u.Op, u.Width, u.Val, args)
	if e != api.OK {
		t.Fatal(u, e)
	}
	return v
}

// TestEval checks P8.2, and the bound of P8.5.
func TestEval(t *testing.T) {
	for i, u := range someTerms() {
		a, b, c := uint64(i), uint64(i/3), uint64(i*i)
		env := []api.Bind{{Name: "z", Val: c}, {Name: "", Val: 9}, {Name: "y", Val: b}, {Name: "z", Val: c + 1}, {Name: "no name", Val: 3}, {Name: "x", Val: a}, {Name: "y", Val: b + 1}, {Name: "x", Val: a + 1}}
		v, e := eval.Eval(u, env)
		if want := value(t, u, map[string]uint64{"x": a, "y": b, "z": c}); v != want || e != api.OK {
			t.Fatalf("Eval of %v with %d, %d, %d is %d, %d, not %d", u, a, b, c, v, e, want)
		}
		if v > bits.Mask(u.Width) {
			t.Fatalf("%d has not the width of %v", v, u)
		}
		// The value depends only on the variables of the term.
		used := slices.DeleteFunc(slices.Clone(env), func(b api.Bind) bool { return !slices.Contains(term.Vars(u), variableOf(b.Name)) })
		if again, e := eval.Eval(u, used); again != v || e != api.OK {
			t.Fatalf("Eval of %v with %v is %d, %d", u, used, again, e)
		}
	}
	example := term.Make(api.OpIte, term.Make(api.OpUlt, term.Var("x", 4), term.Const(4, 3)), term.Const(4, 1), term.Var("x", 4))
	for val, want := range map[uint64]uint64{2: 1, 3: 3, 15: 15, 16: 1, 19: 3} {
		if v, e := eval.Eval(example, []api.Bind{{Name: "x", Val: val}}); v != want || e != api.OK {
			t.Error(val, v, e)
		}
	}
}

// variableOf returns the variable of someTerms with a name.
func variableOf(name string) api.Var {
	return api.Var{Name: name, Width: map[string]int{"x": 2, "y": 1, "z": 3}[name]}
}

// invalid returns terms that are not valid, by the error of term.Check.
func invalid() map[api.Errno][]api.Term {
	deep := x
	for range 64 {
		deep = term.Make(api.OpNot, deep)
	}
	return map[api.Errno][]api.Term{
		api.ErrLong:  {deep},
		api.ErrOp:    {{}, {Op: api.OpHole, Width: 4, Name: "h"}, {Op: api.OpNum, Width: 4, Name: "n"}, {Op: api.OpEval, Width: 2, Args: []api.Term{term.Const(2, 1)}}, {Op: api.OpAdd, Width: 2, Args: []api.Term{x}}, {Op: api.OpNot, Width: 2, Val: 1, Args: []api.Term{x}}},
		api.ErrName:  {term.Var("X", 4), {Op: api.OpVar, Width: 4}},
		api.ErrWidth: {{Op: api.OpConst, Width: 4, Val: 16}, {Op: api.OpConst}, {Op: api.OpAdd, Width: 2, Args: []api.Term{x, y}}, {Op: api.OpNot, Width: 4, Args: []api.Term{term.Const(8, 3)}}},
		api.ErrBind:  {term.Make(api.OpConcat, x, term.Var("x", 3))},
	}
}

// TestEvalErrors checks the errors of P8.2.
func TestEvalErrors(t *testing.T) {
	for want, terms := range invalid() {
		for _, u := range terms {
			for _, env := range [][]api.Bind{nil, {{Name: "x", Val: 1}, {Name: "X", Val: 1}, {Name: "", Val: 1}, {Name: "y", Val: 1}}} {
				if v, e := eval.Eval(u, env); v != 0 || e != want {
					t.Errorf("Eval of %v is %d, %d, not %d", u, v, e, want)
				}
			}
		}
	}
	sum := term.Make(api.OpConcat, x, term.Make(api.OpMul, y, term.Const(1, 0)))
	for _, env := range [][]api.Bind{nil, {{Name: "x", Val: 1}}, {{Name: "y", Val: 1}}, {{Name: "X", Val: 1}, {Name: "y", Val: 1}}, {{Name: "x ", Val: 1}, {Name: "y", Val: 1}, {Name: "", Val: 2}}} {
		if v, e := eval.Eval(sum, env); v != 0 || e != api.ErrBind {
			t.Errorf("Eval with %v is %d, %d", env, v, e)
		}
	}
	if v, e := eval.Eval(term.Const(8, 200), nil); v != 200 || e != api.OK {
		t.Error("a constant:", v, e)
	}
}

// TestFold checks P8.3, and P8.5 for Fold.
func TestFold(t *testing.T) {
	vars := []api.Var{{Name: "x", Width: 2}, {Name: "y", Width: 1}, {Name: "z", Width: 3}}
	folded := 0
	for _, u := range someTerms() {
		before := term.Copy(u)
		f := eval.Fold(u)
		if !term.Same(u, before) {
			t.Fatal("Fold changes", before)
		}
		if term.Check(f) != api.OK || f.Width != u.Width || term.Size(f) > term.Size(u) {
			t.Fatalf("Fold of %v is %v", u, f)
		}
		for sub := range term.All(f) {
			if eval.Closed(sub) && sub.Op != api.OpConst {
				t.Fatalf("Fold of %v leaves %v", u, sub)
			}
		}
		if eval.Closed(u) == (len(term.Vars(u)) > 0) || eval.Closed(u) != (f.Op == api.OpConst) {
			t.Fatalf("Closed of %v, which folds to %v", u, f)
		}
		if !slices.Equal(term.Vars(f), term.Vars(u)) {
			t.Fatalf("Fold of %v loses a variable: %v", u, f)
		}
		a, _ := eval.Table(u, vars)
		b, e := eval.Table(f, vars)
		if !slices.Equal(a, b) || e != api.OK {
			t.Fatalf("Fold of %v is %v, %d", u, f, e)
		}
		if !term.Same(u, f) {
			folded++
		}
	}
	if folded == 0 {
		t.Error("nothing to fold")
	}
	product := term.Make(api.OpMul, term.Const(4, 2), term.Const(4, 3))
	sum := term.Make(api.OpAdd, term.Var("x", 4), product)
	if f := eval.Fold(sum); !term.Same(f, term.Make(api.OpAdd, term.Var("x", 4), term.Const(4, 6))) {
		t.Error("the example:", f)
	}
}

// TestFoldMemory checks that Fold gives nothing of its argument away, and changes no invalid term (P8.3).
func TestFoldMemory(t *testing.T) {
	for _, u := range []api.Term{term.Make(api.OpAdd, x, term.Make(api.OpNot, x)), {Op: api.OpAdd, Width: 9, Args: []api.Term{x, term.Make(api.OpNot, term.Const(2, 1))}}} {
		f := eval.Fold(u)
		if !term.Same(f, u) {
			t.Errorf("Fold of %v is %v", u, f)
		}
		f.Args[0].Name, f.Args[1].Args[0].Name = "changed", "changed"
		if u.Args[0].Name != "x" || u.Args[1].Args[0].Name == "changed" {
			t.Error("shared memory:", u)
		}
	}
	for _, terms := range invalid() {
		for _, u := range terms {
			if f := eval.Fold(u); !term.Same(f, u) {
				t.Errorf("Fold of %v is %v", u, f)
			}
		}
	}
}

// TestEach checks Each, which does what P8.2 says for several environments.
func TestEach(t *testing.T) {
	envs := [][]api.Bind{{{Name: "x", Val: 3}}, {{Name: "y"}, {Name: "x", Val: 18}, {Name: "x", Val: 1}}, {{Name: "x", Val: 15}, {Name: "", Val: 9}}}
	not := term.Make(api.OpNot, term.Var("x", 4))
	for n := range len(envs) + 1 {
		values, e := eval.Each(not, envs[:n])
		if want := []uint64{12, 13, 0}[:n]; e != api.OK || !slices.Equal(values, want) {
			t.Errorf("%v, %d, not %v", values, e, want)
		}
	}
	if values, e := eval.Each(not, append(envs, nil)); len(values) != 0 || e != api.ErrBind {
		t.Error("a variable is missing:", values, e)
	}
	if values, e := eval.Each(term.Const(4, 7), [][]api.Bind{nil, nil}); !slices.Equal(values, []uint64{7, 7}) || e != api.OK {
		t.Error("no variables:", values, e)
	}
	for want, terms := range invalid() {
		for _, u := range terms {
			if values, e := eval.Each(u, nil); len(values) != 0 || e != want {
				t.Errorf("Each of %v is %v, %d, not %d", u, values, e, want)
			}
		}
	}
}

// TestClosed checks Closed of P8.3, for invalid terms too.
func TestClosed(t *testing.T) {
	hole := api.Term{Op: api.OpHole, Width: 4, Name: "h"}
	for i, c := range []struct {
		t    api.Term
		want bool
	}{
		{api.Term{}, true}, {x, false}, {api.Term{Op: api.OpVar}, false}, {term.Const(4, 3), true}, {hole, true}, {api.Term{Op: api.OpNum}, true}, {term.Make(api.OpAdd, hole, hole), true}, {term.Make(api.OpAdd, hole, x), false}, {term.Make(api.OpAdd, x, hole), false},
		{api.Term{Op: 99, Args: []api.Term{{}, {}, {}, {Op: 99, Args: []api.Term{{}, x}}}}, false}, {api.Term{Op: api.OpVar, Args: []api.Term{hole}}, false}, {api.Term{Op: api.OpConst, Args: []api.Term{x}}, false}, {api.Term{Op: 99, Name: "x", Args: []api.Term{hole, hole}}, true},
	} {
		if eval.Closed(c.t) != c.want {
			t.Errorf("case %d", i)
		}
	}
}
