package facts_test

import (
	"fmt"
	"math/rand/v2"
	"slices"
	"testing"

	"saturate/api"
	"saturate/bits"
	"saturate/enum"
	"saturate/eval"
	"saturate/facts"
	"saturate/known"
	"saturate/opinfo"
	"saturate/ranges"
	"saturate/term"
	"saturate/termtext"
)

// call is a call of Apply.
type call struct {
	op    api.Op
	width int
	val   uint64
	args  []api.Facts
}

// want returns what Apply has to return, by P14.3.
func (c call) want() (api.Facts, api.Errno) {
	var widths []int
	var ks []api.Known
	var rs []api.Range
	for _, f := range c.args {
		f = sane(f)
		widths, ks, rs = append(widths, f.Width), append(ks, f.Known), append(rs, f.Range)
	}
	k, e := known.Apply(c.op, c.width, c.val, widths, ks)
	r, e2 := ranges.Apply(c.op, c.width, c.val, widths, rs)
	if e != e2 {
		panic("the errors of both domains differ")
	}
	if e != api.OK {
		return api.Facts{}, e
	}
	w, _ := opinfo.Width(c.op, c.width, c.val, widths)
	f, _ := wantReduce(api.Facts{Width: w, Known: k, Range: r})
	return f, api.OK
}

// check checks Apply for a call without an error.
func (c call) check(t *testing.T) api.Facts {
	t.Helper()
	before := slices.Clone(c.args)
	want, wantError := c.want()
	f, e := facts.Apply(c.op, c.width, c.val, c.args)
	if f != want || e != api.OK || wantError != api.OK || !facts.Valid(f) {
		t.Fatalf("Apply of %s, %v is %v, %d, not %v, %d", opinfo.Name(c.op), c, f, e, want, wantError)
	}
	if !slices.Equal(c.args, before) {
		t.Fatalf("Apply changes %v", before)
	}
	return f
}

// calls calls visit with calls of all operators, for the given facts of widths up to most.
func calls(most int, list func(w int) []api.Facts, visit func(c call)) {
	for w := 1; w <= most; w++ {
		for _, a := range list(w) {
			visit(call{api.OpNot, 0, 0, []api.Facts{a}})
			visit(call{api.OpNeg, 0, 0, []api.Facts{a}})
			for r := w; r <= w+2; r++ {
				visit(call{api.OpZext, r, 0, []api.Facts{a}})
				visit(call{api.OpSext, r, 0, []api.Facts{a}})
			}
			for r := 1; r <= w; r++ {
				for low := range w - r + 1 {
					visit(call{api.OpExtract, r, uint64(low), []api.Facts{a}})
				}
			}
			for _, b := range list(w) {
				for op := api.OpAnd; op <= api.OpSlt; op++ {
					visit(call{op, 0, 0, []api.Facts{a, b}})
				}
				for _, c := range list(1) {
					visit(call{api.OpIte, 0, 0, []api.Facts{c, a, b}})
				}
			}
			for v := 1; v <= 2; v++ {
				for _, b := range list(v) {
					visit(call{api.OpConcat, 0, 0, []api.Facts{a, b}})
				}
			}
		}
	}
}

// TestApply checks P14.3, for facts that are not valid too.
func TestApply(t *testing.T) {
	calls(2, func(w int) []api.Facts { return append(pairs(w), broken(w)...) }, func(c call) { c.check(t) })
	for _, w := range []int{1, 4, 63, 64} {
		if f := (call{api.OpVar, w, 99, nil}).check(t); f != facts.Top(w) {
			t.Error("a variable:", f)
		}
		if f := (call{api.OpConst, w, 1, nil}).check(t); f != facts.Const(w, 1) {
			t.Error("a constant:", f)
		}
	}
	// Both domains together know more than each of them.
	if f := (call{api.OpAnd, 0, 0, []api.Facts{facts.Top(8), facts.Const(8, 15)}}).check(t); f != of(8, 240, 0, 0, 15) {
		t.Error("the example:", f)
	}
	if f := (call{api.OpUlt, 0, 0, []api.Facts{of(8, 240, 0, 0, 15), facts.Const(8, 16)}}).check(t); f != facts.Const(1, 1) {
		t.Error("the example:", f)
	}
	// An operand without a value: the bits of the sum would be those of 3 or 7, and its range would be from 4 to 5.
	if f := (call{api.OpAdd, 0, 0, []api.Facts{of(4, 9, 2, 3, 4), facts.Const(4, 1)}}).check(t); f != facts.Top(4) {
		t.Error("an operand without a value:", f)
	}
}

// TestApplyErrors checks the errors of P14.3. The Widths are those of the facts that the arguments stand for.
func TestApplyErrors(t *testing.T) {
	top, other, none, wide := facts.Top(8), facts.Top(4), api.Facts{}, api.Facts{Width: 99}
	for i, c := range []struct {
		call
		want api.Errno
	}{
		{call{0, 8, 0, nil}, api.ErrOp}, {call{27, 8, 0, []api.Facts{top, top}}, api.ErrOp}, {call{-1, 8, 0, nil}, api.ErrOp}, {call{api.OpAdd, 8, 0, []api.Facts{top}}, api.ErrOp}, {call{api.OpAdd, 8, 0, nil}, api.ErrOp}, {call{api.OpNot, 0, 0, []api.Facts{top, top}}, api.ErrOp}, {call{api.OpVar, 8, 0, []api.Facts{top}}, api.ErrOp},
		{call{api.OpHole, 8, 0, nil}, api.ErrOp}, {call{api.OpNum, 8, 0, nil}, api.ErrOp}, {call{api.OpEval, 8, 0, []api.Facts{top}}, api.ErrOp}, {call{api.OpHole, 65, 0, nil}, api.ErrWidth},
		{call{api.OpAdd, 0, 0, []api.Facts{top, other}}, api.ErrWidth}, {call{api.OpAdd, 0, 0, []api.Facts{top, none}}, api.ErrWidth}, {call{api.OpIte, 0, 0, []api.Facts{top, top, top}}, api.ErrWidth}, {call{api.OpVar, 0, 0, nil}, api.ErrWidth}, {call{api.OpVar, 65, 0, nil}, api.ErrWidth}, {call{api.OpConst, 4, 16, nil}, api.ErrWidth}, {call{api.OpConst, 0, 0, nil}, api.ErrWidth}, {call{api.OpExtract, 4, 5, []api.Facts{top}}, api.ErrWidth}, {call{api.OpConcat, 0, 0, []api.Facts{wide, none}}, api.ErrWidth}, {call{api.OpZext, 63, 0, []api.Facts{wide}}, api.ErrWidth},
	} {
		f, e := facts.Apply(c.op, c.width, c.val, c.args)
		if f != (api.Facts{}) || e != c.want {
			t.Errorf("case %d: %v, %d, not %d", i, f, e, c.want)
		}
		if _, want := c.call.want(); e != want {
			t.Errorf("case %d: known.Apply returns %d", i, want)
		}
	}
	for i, c := range []struct {
		call
		want api.Facts
	}{
		{call{api.OpNot, 0, 0, []api.Facts{none}}, facts.Top(1)}, {call{api.OpAnd, 0, 0, []api.Facts{wide, facts.Const(64, 3)}}, of(64, ^uint64(3), 0, 0, 3)}, {call{api.OpIte, 0, 0, []api.Facts{{Width: -5}, other, other}}, other}, {call{api.OpEq, 0, 0, []api.Facts{{Width: 0}, {Width: 1}}}, facts.Top(1)},
	} {
		if f := c.check(t); f != c.want {
			t.Errorf("widths, case %d: %v, not %v", i, f, c.want)
		}
	}
}

// results calls visit with the values of the operator for all contained operand values.
func (c call) results(visit func(x uint64)) {
	var choose func(words []api.Word)
	choose = func(words []api.Word) {
		i := len(words)
		if i == len(c.args) {
			x, _ := eval.Apply(c.op, c.width, c.val, words)
			visit(x)
			return
		}
		for _, x := range values(c.args[i]) {
			choose(append(slices.Clone(words), api.Word{Width: c.args[i].Width, Val: x}))
		}
	}
	choose(nil)
}

// TestSound checks P14.5 for Apply, with all valid facts of small widths.
func TestSound(t *testing.T) {
	calls(3, valid, func(c call) {
		if len(c.args) > 2 && c.args[1].Width > 2 {
			return
		}
		f := c.check(t)
		c.results(func(x uint64) {
			if !facts.Has(f, x) {
				t.Fatalf("%s of %v is %v, without %d", opinfo.Name(c.op), c, f, x)
			}
		})
	})
}

// random returns valid facts of a width, and a value that they contain.
func random(r *rand.Rand, w int) (api.Facts, uint64) {
	x := bits.Cut(w, r.Uint64()>>r.IntN(64))
	if r.IntN(4) == 0 {
		return facts.Const(w, x), x
	}
	certain := r.Uint64() & r.Uint64()
	lo, hi := x-min(x, r.Uint64()>>r.IntN(64)), x+min(bits.Mask(w)-x, r.Uint64()>>r.IntN(64))
	f, _ := facts.Reduce(of(w, bits.Cut(w, ^x&certain), x&certain, lo, hi))
	return f, x
}

// TestSoundWide checks P14.5 for Apply, Meet and Join with all widths.
func TestSoundWide(t *testing.T) {
	r := rand.New(rand.NewPCG(14, 5))
	for range 60000 {
		w := 1 + r.IntN(64)
		c := call{op: api.OpNot + api.Op(r.IntN(int(api.OpSext-api.OpNot)+1))}
		widths := slices.Repeat([]int{w}, opinfo.Arity(c.op))
		switch c.op {
		case api.OpIte:
			widths[0] = 1
		case api.OpConcat:
			widths[0] = 1 + r.IntN(63)
			widths[1] = 1 + r.IntN(64-widths[0])
		case api.OpExtract:
			c.val = uint64(r.IntN(w))
			c.width = 1 + r.IntN(w-int(c.val))
		case api.OpZext, api.OpSext:
			c.width = w + r.IntN(65-w)
		}
		var words []api.Word
		for _, width := range widths {
			f, x := random(r, width)
			c.args, words = append(c.args, f), append(words, api.Word{Width: width, Val: x})
		}
		x, _ := eval.Apply(c.op, c.width, c.val, words)
		if f := c.check(t); !facts.Has(f, x) {
			t.Fatalf("%s of %v is %v, without %d", opinfo.Name(c.op), c, f, x)
		}
		a, y := random(r, w)
		b, z := random(r, w)
		if j, e := facts.Join(a, b); e != api.OK || !facts.Has(j, y) || !facts.Has(j, z) || !facts.Valid(j) {
			t.Fatalf("Join(%v, %v) is %v, %d", a, b, j, e)
		}
		if m, ok := facts.Meet(a, b); facts.Has(b, y) && (!ok || !facts.Has(m, y)) || !facts.Valid(m) {
			t.Fatalf("Meet(%v, %v) is %v, %v, without %d", a, b, m, ok, y)
		}
	}
}

// read returns the term or pattern with a text.
func read(s string) api.Term {
	t, e := termtext.Parse(s)
	if e != api.OK {
		panic(fmt.Sprint(s, " has the error ", e))
	}
	return t
}

// wantOf computes the facts of a valid term from its operands upwards.
func wantOf(t api.Term) api.Facts {
	var args []api.Facts
	for _, arg := range t.Args {
		args = append(args, wantOf(arg))
	}
	f, _ := (call{t.Op, t.Width, t.Val, args}).want()
	return f
}

// TestOf checks P14.4, and P14.5 for it.
func TestOf(t *testing.T) {
	vars := []api.Var{{Name: "x", Width: 3}, {Name: "y", Width: 2}}
	g := api.Grammar{Vars: vars, Consts: []api.Word{{Width: 3, Val: 5}, {Width: 1, Val: 1}}, Size: 5, Most: 4000}
	for op := api.OpNot; op <= api.OpConcat; op++ {
		g.Ops = append(g.Ops, op)
	}
	terms, _ := enum.Terms(g)
	for _, u := range terms {
		f, e := facts.Of(u)
		if f != wantOf(u) || e != api.OK {
			t.Fatalf("Of %v is %v, %d, not %v", u, f, e, wantOf(u))
		}
		table, _ := eval.Table(u, vars)
		for _, x := range table {
			if !facts.Has(f, x) {
				t.Fatalf("Of %v is %v, without %d", u, f, x)
			}
		}
	}
	for s, want := range map[string]api.Facts{
		"x:8": facts.Top(8), "7:8": facts.Const(8, 7), "(and x:8 15:8)": of(8, 240, 0, 0, 15), "(ult (and x:8 15:8) 16:8)": facts.Const(1, 1), "(and x:8 0:8)": facts.Const(8, 0), "(extract 4 4 (or x:8 192:8))": of(4, 0, 12, 12, 15),
		"(zext 16 x:8)": of(16, 0xff00, 0, 0, 255), "(sext 16 (and x:8 127:8))": of(16, 0xff80, 0, 0, 127), "(concat 3:4 x:4)": of(8, 192, 48, 48, 63), "(urem x:8 10:8)": of(8, 240, 0, 0, 9), "(eq (urem x:8 10:8) 12:8)": facts.Const(1, 0),
	} {
		if f, e := facts.Of(read(s)); f != want || e != api.OK {
			t.Errorf("Of %s is %v, %d, not %v", s, f, e, want)
		}
	}
}

// TestOfErrors checks the errors of P14.4.
func TestOfErrors(t *testing.T) {
	deep := read("x:8")
	for range 64 {
		deep = term.Make(api.OpNot, deep)
	}
	for want, list := range map[api.Errno][]api.Term{
		api.ErrLong: {deep}, api.ErrOp: {{}, read("?x:8"), read("(eval 3:8)"), {Op: api.OpAdd, Width: 8, Args: []api.Term{read("x:8")}}}, api.ErrName: {term.Var("X", 8)},
		api.ErrWidth: {{Op: api.OpConst, Width: 4, Val: 16}, {Op: api.OpVar, Name: "x"}, {Op: api.OpNot, Width: 4, Args: []api.Term{read("x:8")}}}, api.ErrBind: {term.Make(api.OpConcat, read("x:8"), read("x:4"))},
	} {
		for _, u := range list {
			if f, e := facts.Of(u); f != (api.Facts{}) || e != want {
				t.Errorf("Of %v is %v, %d, not %d", u, f, e, want)
			}
		}
	}
	if f, e := facts.Of(deep.Args[0]); f != facts.Top(8) || e != api.OK {
		t.Error("the greatest depth:", f, e)
	}
}
