package lower_test

import (
	"math"
	"slices"
	"testing"

	"saturate/api"
	"saturate/exec"
	"saturate/isa"
	"saturate/lower"
	"saturate/term"
	"saturate/termtext"
)

// read reads a term.
func read(t *testing.T, s string) api.Term {
	t.Helper()
	x, e := termtext.Parse(s)
	if e != api.OK {
		t.Fatalf("%s: %d", s, e)
	}
	return x
}

// readAll reads terms.
func readAll(t *testing.T, l ...string) []api.Term {
	t.Helper()
	var terms []api.Term
	for _, s := range l {
		terms = append(terms, read(t, s))
	}
	return terms
}

// none reports whether a program is the zero program.
func none(c api.Code) bool {
	return isa.Same(c, api.Code{})
}

// TestExamples checks the examples of chapter 52.
func TestExamples(t *testing.T) {
	if l, e := lower.Moves(8, 2, []int{0, 1}, []int{1, 0}); len(l) != 0 || e != api.ErrReg {
		t.Error(l, e)
	}
	c, e := lower.Run(8, 2, readAll(t, "(add r0:8 r1:8)"), []int{0}, nil)
	if want := "width 8 regs 2\nadd r0 r0 r1\nout r0\n"; e != api.OK || isa.Print(c) != want {
		t.Error(isa.Print(c), e)
	}
}

// TestSupported checks P52.1 for the width 8 and three registers.
func TestSupported(t *testing.T) {
	for s, want := range map[string]api.Errno{
		"r0:8": api.OK, "r2:8": api.OK, "r3:8": api.ErrOp, "r7:8": api.ErrOp, "r8:8": api.ErrOp, "x:8": api.ErrOp, "r:8": api.ErrOp, "r00:8": api.ErrOp, "r1_:8": api.ErrOp, "q0:8": api.ErrOp, "r0:4": api.ErrWidth, "0:8": api.OK, "255:8": api.OK, "0:4": api.ErrWidth, "1:1": api.ErrWidth,
		"(not r0:8)": api.OK, "(neg r0:8)": api.OK, "(and r0:8 1:8)": api.OK, "(or r0:8 r1:8)": api.OK, "(xor r0:8 r1:8)": api.OK, "(add r0:8 r1:8)": api.OK, "(sub r0:8 r1:8)": api.OK, "(mul r0:8 r1:8)": api.OK, "(shl r0:8 r1:8)": api.OK, "(lshr r0:8 r1:8)": api.OK, "(ashr r0:8 r1:8)": api.OK,
		"(not x:8)": api.ErrOp, "(add r0:8 x:8)": api.ErrOp, "(add x:8 r0:8)": api.ErrOp, "(mul r0:8 (not (neg r3:8)))": api.ErrOp,
		"(udiv r0:8 r1:8)": api.ErrOp, "(urem r0:8 r1:8)": api.ErrOp, "(udiv r0:8 3:8)": api.OK, "(urem r0:8 255:8)": api.OK, "(udiv r0:8 0:8)": api.ErrOp, "(urem 5:8 (or r1:8 4:8))": api.OK, "(udiv r0:8 (and r1:8 4:8))": api.ErrOp, "(udiv r0:8 (or x:8 1:8))": api.ErrOp, "(udiv x:8 1:8)": api.ErrOp, "(udiv r0:8 (zext 8 (ult r0:8 r1:8)))": api.ErrOp, "(udiv r0:8 (add 1:8 (zext 8 (ult r0:8 r1:8))))": api.OK,
		"(eq r0:8 r1:8)": api.ErrWidth, "(zext 8 (eq r0:8 r1:8))": api.OK, "(zext 8 (ult r0:8 1:8))": api.OK, "(zext 8 (slt 2:8 1:8))": api.OK, "(zext 8 1:1)": api.OK, "(zext 8 r0:1)": api.ErrOp, "(zext 8 (eq r0:4 r1:4))": api.ErrOp, "(zext 8 (ult 1:4 2:4))": api.ErrOp, "(zext 8 3:4)": api.ErrOp, "(zext 8 (zext 4 (eq r0:8 r1:8)))": api.ErrOp,
		"(sext 8 (eq r0:8 r1:8))": api.ErrOp, "(sext 8 1:1)": api.ErrOp, "(concat 1:4 2:4)": api.ErrOp, "(extract 0 8 r0:8)": api.ErrOp, "(zext 8 (extract 0 1 r0:8))": api.ErrOp, "(zext 8 r0:8)": api.ErrOp, "(sext 8 r0:8)": api.ErrOp,
		"(zext 8 (not (eq r0:8 r1:8)))": api.OK, "(zext 8 (neg (eq r0:8 r1:8)))": api.ErrOp, "(zext 8 (and (eq r0:8 r1:8) (or (ult r0:8 1:8) (xor 1:1 (slt r0:8 r2:8)))))": api.OK, "(zext 8 (eq (eq r0:8 r1:8) 0:1))": api.OK, "(zext 8 (ult (eq r0:8 r1:8) 1:1))": api.ErrOp, "(zext 8 (slt 0:1 1:1))": api.ErrOp, "(zext 8 (add (eq r0:8 r1:8) 1:1))": api.ErrOp, "(zext 8 (and (eq r0:8 r1:8) p:1))": api.ErrOp, "(zext 8 (eq 0:4 0:4))": api.ErrOp, "(zext 8 (eq (zext 4 (eq r0:8 r1:8)) (zext 4 (ult r0:8 r1:8))))": api.ErrOp,
		"(ite (eq r0:8 r1:8) r0:8 5:8)": api.OK, "(ite 1:1 r0:8 r1:8)": api.OK, "(ite (eq r0:4 r1:4) r0:8 r1:8)": api.ErrBind, "(ite (eq 1:4 2:4) r0:8 r1:8)": api.ErrOp, "(ite p:1 r0:8 r1:8)": api.ErrOp, "(ite (eq r0:8 r1:8) x:8 r1:8)": api.ErrOp, "(ite (eq r0:8 r1:8) r1:8 x:8)": api.ErrOp, "(zext 8 (ite (eq r0:8 r1:8) (ult r0:8 r1:8) 0:1))": api.OK, "(zext 8 (ite 0:1 (ult r0:8 r1:8) p:1))": api.ErrOp, "(zext 8 (ite 0:1 p:1 1:1))": api.ErrOp, "(zext 8 (ite p:1 0:1 1:1))": api.ErrOp,
		"(concat r0:8 r0:4)": api.ErrBind, "?a:8": api.ErrOp,
	} {
		if e := lower.Supported(8, 3, read(t, s), nil); e != want {
			t.Errorf("%s: %d, not %d", s, e, want)
		}
		terms := []api.Term{read(t, s)}
		if c, e := lower.Run(8, 3, terms, []int{0}, nil); want != api.OK && (e != want || !none(c)) || want == api.OK && e != want && e != api.ErrReg {
			t.Errorf("Run of %s: %s, %d, not %d", s, isa.Print(c), e, want)
		}
	}
	if e := lower.Supported(8, 8, read(t, "r7:8"), nil); e != api.OK {
		t.Error(e)
	}
}

// TestOneBit checks P52.1 for the width 1, where a term can be a value and a flag.
func TestOneBit(t *testing.T) {
	for s, want := range map[string]api.Errno{
		"r0:1": api.OK, "1:1": api.OK, "(not r0:1)": api.OK, "(add r0:1 r1:1)": api.OK, "(and 1:1 0:1)": api.OK, "(ite 1:1 r0:1 0:1)": api.OK, "(ite (ite 1:1 0:1 1:1) r0:1 0:1)": api.OK, "(ite (eq r0:1 r1:1) 1:1 0:1)": api.OK,
		"(eq r0:1 r1:1)": api.ErrOp, "(ult r0:1 r1:1)": api.ErrOp, "(zext 1 (eq r0:1 r1:1))": api.OK, "(zext 1 (eq 1:1 0:1))": api.OK, "(zext 1 r0:1)": api.ErrOp, "(not (eq r0:1 r1:1))": api.ErrOp, "(zext 1 (not (eq r0:1 r1:1)))": api.OK, "(and r0:1 (eq r0:1 r1:1))": api.ErrOp, "(zext 1 (eq r0:1 (eq r0:1 r1:1)))": api.ErrOp, "(zext 1 (eq 1:1 (eq r0:1 r1:1)))": api.OK, "(ite r0:1 r0:1 r1:1)": api.ErrOp, "(ite (not 1:1) r0:1 r1:1)": api.OK, "(ite (neg 1:1) r0:1 r1:1)": api.ErrOp, "(udiv r0:1 1:1)": api.OK, "(udiv r0:1 r1:1)": api.ErrOp,
	} {
		if e := lower.Supported(1, 2, read(t, s), nil); e != want {
			t.Errorf("%s: %d, not %d", s, e, want)
		}
	}
}

// TestSafe checks divisors that are safe (P52.1).
func TestSafe(t *testing.T) {
	safe := []api.Term{{Op: 99, Args: make([]api.Term, 3)}, read(t, "r1:8"), read(t, "(and r0:8 r1:8)"), read(t, "0:8"), read(t, "x:8")}
	for s, want := range map[string]api.Errno{"(udiv r0:8 r1:8)": api.OK, "(urem r0:8 r1:8)": api.OK, "(udiv r1:8 r0:8)": api.ErrOp, "(urem (udiv 1:8 r1:8) (and r0:8 r1:8))": api.OK, "(urem r0:8 (and r1:8 r0:8))": api.ErrOp, "(udiv r0:8 0:8)": api.OK, "(udiv r0:8 x:8)": api.ErrOp, "(udiv r1:8 (udiv r0:8 r1:8))": api.ErrOp} {
		if e := lower.Supported(8, 2, read(t, s), safe); e != want {
			t.Errorf("%s: %d, not %d", s, e, want)
		}
	}
	terms := readAll(t, "(udiv r0:8 r1:8)", "(add (urem r0:8 r1:8) 1:8)")
	c, e := lower.Run(8, 4, terms, []int{1, 0}, safe)
	if l, f := exec.Outs(c, []uint64{23, 5}); e != api.OK || f != api.OK || !slices.Equal(l, []uint64{4, 4}) {
		t.Error(isa.Print(c), e, l, f)
	}
	if c, e := lower.Run(8, 4, terms, []int{1, 0}, safe[2:]); e != api.ErrOp || !none(c) {
		t.Error(isa.Print(c), e)
	}
}

// TestMachines checks the order of the errors of P52.1.
func TestMachines(t *testing.T) {
	good, bad := read(t, "r0:8"), api.Term{Op: 99}
	for _, n := range []int{0, -1, 65, math.MinInt, math.MaxInt} {
		for _, x := range []api.Term{good, bad} {
			if e := lower.Supported(n, 9, x, nil); e != api.ErrWidth {
				t.Errorf("width %d: %d", n, e)
			}
			if e := lower.Supported(8, min(n, 9), x, nil); e != api.ErrReg {
				t.Errorf("%d registers: %d", n, e)
			}
		}
		if _, e := lower.Run(n, 8, nil, nil, nil); e != api.ErrWidth {
			t.Errorf("width %d: %d", n, e)
		}
		if _, e := lower.Run(8, min(n, 9), nil, nil, nil); e != api.ErrReg {
			t.Errorf("%d registers: %d", n, e)
		}
	}
	for w := 1; w <= 64; w++ {
		for regs := 1; regs <= 8; regs++ {
			if e := lower.Supported(w, regs, term.Var("r0", w), nil); e != api.OK {
				t.Error(w, regs, e)
			}
			if c, e := lower.Run(w, regs, nil, nil, nil); e != api.OK || c.Width != w || c.Regs != regs || len(c.Ins) != 0 || len(c.Out) != 0 {
				t.Error(w, regs, c, e)
			}
		}
	}
	if e := lower.Supported(8, 8, bad, nil); e != api.ErrOp {
		t.Error(e)
	}
	if e := lower.Supported(8, 8, api.Term{Op: api.OpVar, Width: 4, Name: "A"}, nil); e != api.ErrName {
		t.Error(e)
	}
}

// TestFlag checks Flag of P52.1.
func TestFlag(t *testing.T) {
	for s, want := range map[string]bool{
		"1:1": true, "0:1": true, "1:2": false, "r0:1": false, "r0:8": false, "(eq r0:8 r7:8)": true, "(eq r0:8 r8:8)": false, "(eq x:8 r0:8)": false, "(ult r0:64 3:64)": true, "(slt r0:3 r1:3)": true, "(eq r0:1 r1:1)": true, "(eq 1:1 0:1)": true, "(ult 1:1 0:1)": true, "(eq 5:8 5:8)": true,
		"(not (eq r0:8 r1:8))": true, "(neg (eq r0:8 r1:8))": false, "(and (eq r0:8 r1:8) (ult r2:8 1:8))": true, "(xor 1:1 1:1)": true, "(or (eq r0:8 r1:8) (ult r2:4 1:4))": false, "(or (eq r0:8 r1:8) (eq 1:4 2:4))": false, "(or (eq r0:8 r1:8) r2:1)": false, "(eq (eq r0:8 r1:8) (ult r0:8 r1:8))": true, "(ult (eq r0:8 r1:8) 1:1)": false, "(eq (eq r0:1 r1:1) 1:1)": true, "(ult (eq r0:1 r1:1) 1:1)": false, "(ite (eq r0:8 r1:8) 1:1 (slt r0:8 r1:8))": true, "(ite r0:1 1:1 0:1)": false, "(ite (eq r0:1 r1:1) 1:1 0:1)": true,
		"(eq (udiv r0:8 r1:8) 1:8)": false, "(eq (udiv r0:8 3:8) 1:8)": true, "(eq (zext 8 (eq r0:8 r1:8)) r2:8)": true, "(eq (zext 8 (eq r0:4 r1:4)) r2:8)": false, "(eq (zext 8 1:1) r2:8)": true, "(zext 1 (eq r0:1 r1:1))": false, "(eq (zext 4 (eq r0:8 r1:8)) (zext 4 (ult r0:8 r1:8)))": false, "(extract 0 1 r0:8)": false, "(eq ?a:8 r0:8)": false,
	} {
		if lower.Flag(read(t, s)) != want {
			t.Errorf("%s: %v", s, !want)
		}
	}
	if lower.Flag(api.Term{}) || lower.Flag(api.Term{Op: api.OpConst, Width: 1, Val: 2}) {
		t.Error("an invalid term is a flag")
	}
	// The operands of eq are both of a conditional and of its condition, again and again.
	deep := read(t, "(eq r0:1 r1:1)")
	for range 30 {
		deep = term.Make(api.OpEq, term.Make(api.OpIte, deep, term.Const(1, 1), term.Const(1, 0)), term.Const(1, 1))
	}
	if !lower.Flag(deep) {
		t.Error("a deep flag")
	}
}

// TestValues checks Values of P52.2.
func TestValues(t *testing.T) {
	for i, c := range []struct {
		terms []api.Term
		want  int
	}{
		{nil, 0}, {readAll(t, "r0:8"), 1}, {readAll(t, "r0:8", "r0:8", "r1:8", "r0:4"), 3}, {readAll(t, "(add r0:8 r0:8)", "(not (add r0:8 r0:8))"), 3}, {readAll(t, "(ite (eq r0:8 0:8) (zext 8 (eq r0:8 0:8)) 1:8)", "1:1"), 7}, {readAll(t, "(concat x:4 ?a:4)", "?a:4"), 3},
		{[]api.Term{{}, {}, {Op: 99, Args: []api.Term{{}}}}, 2}, {[]api.Term{{Op: 1}, {Op: 1, Width: 1}, {Op: 1, Val: 1}, {Op: 1, Name: "a"}, {Op: 1, Args: []api.Term{{Op: 1}}}}, 5},
	} {
		if n := lower.Values(c.terms); n != c.want {
			t.Errorf("case %d: %d, not %d", i, n, c.want)
		}
	}
}

// TestRunErrors checks the errors of Run (P52.2) and their order.
func TestRunErrors(t *testing.T) {
	good, bad, narrow := read(t, "r0:8"), read(t, "x:8"), read(t, "r0:4")
	for i, c := range []struct {
		w, regs int
		terms   []api.Term
		out     []int
		want    api.Errno
	}{
		{8, 2, []api.Term{good}, nil, api.ErrArg}, {8, 2, nil, []int{0}, api.ErrArg}, {0, 0, []api.Term{bad}, []int{0, 1}, api.ErrArg},
		{8, 2, []api.Term{bad}, []int{9}, api.ErrOp}, {8, 2, []api.Term{good, narrow, bad}, []int{0, 0, 9}, api.ErrWidth}, {8, 2, []api.Term{good, bad, narrow}, []int{0, 0, 9}, api.ErrOp}, {65, 2, []api.Term{bad}, []int{9}, api.ErrWidth}, {8, 9, []api.Term{bad}, []int{9}, api.ErrReg}, {8, 2, []api.Term{{}}, []int{0}, api.ErrOp},
		{8, 2, []api.Term{good}, []int{2}, api.ErrReg}, {8, 2, []api.Term{good}, []int{-1}, api.ErrReg}, {8, 2, []api.Term{good}, []int{math.MinInt}, api.ErrReg}, {8, 8, []api.Term{good}, []int{8}, api.ErrReg}, {8, 2, []api.Term{good, good, good}, []int{0, 0, 2}, api.ErrReg}, {8, 2, []api.Term{good, good}, []int{1, 1}, api.ErrDup}, {8, 1, []api.Term{good, good}, []int{0, 0}, api.ErrDup},
		// Too few registers.
		{8, 2, readAll(t, "r1:8", "r0:8"), []int{0, 1}, api.ErrReg}, {8, 1, readAll(t, "(add r0:8 1:8)"), []int{0}, api.ErrReg}, {8, 2, readAll(t, "(sub (add r0:8 r1:8) (mul r0:8 r1:8))"), []int{0}, api.ErrReg}, {8, 2, readAll(t, "(add r0:8 (mul r0:8 3:8))"), []int{0}, api.OK}, {8, 2, readAll(t, "(add r0:8 r1:8)", "r0:8"), []int{1, 0}, api.OK},
	} {
		code, e := lower.Run(c.w, c.regs, c.terms, c.out, nil)
		if e != c.want || e != api.OK && !none(code) {
			t.Errorf("case %d: %s, %d, not %d", i, isa.Print(code), e, c.want)
		}
	}
}

// TestLong checks the error ErrLong of Run (P52.2).
func TestLong(t *testing.T) {
	build := func(lengths ...int) ([]api.Term, []int) {
		var terms []api.Term
		var out []int
		for r, length := range lengths {
			x := term.Var("r"+string(rune('0'+r)), 8)
			for k := range length {
				x = term.Make([]api.Op{api.OpNot, api.OpNeg}[k%2], x)
			}
			terms, out = append(terms, x), append(out, r)
		}
		return terms, out
	}
	terms, out := build(63, 63, 63, 63, 2, 1, 1)
	if c, e := lower.Run(8, 7, terms, out, nil); e != api.OK || len(c.Ins) != api.MaxCode {
		t.Error(len(c.Ins), e)
	}
	for _, lengths := range [][]int{{63, 63, 63, 63, 5}, {63, 63, 63, 63, 2, 1, 2}, {63, 63, 63, 63, 63, 63, 63, 63}} {
		terms, out = build(lengths...)
		if c, e := lower.Run(8, 8, terms, out, nil); e != api.ErrLong || !none(c) {
			t.Error(isa.Print(c), e)
		}
	}
	// If the registers are too few as well, that is the error.
	terms, out = build(63, 63, 63, 63, 63, 63, 63)
	terms, out = append(terms, read(t, "(add r7:8 1:8)")), append(out, 7)
	if c, e := lower.Run(8, 8, terms, out, nil); e != api.ErrReg || !none(c) {
		t.Error(isa.Print(c), e)
	}
}

// TestMemory checks general rule 5 for Run.
func TestMemory(t *testing.T) {
	out := []int{1, 0}
	c, e := lower.Run(8, 3, readAll(t, "r0:8", "r1:8"), out, nil)
	c.Out[0] = 2
	if e != api.OK || out[0] != 1 {
		t.Error(e, out)
	}
}

// TestShort checks how many instructions are generated at the most.
func TestShort(t *testing.T) {
	for i, c := range []struct {
		regs  int
		terms []string
		out   []int
		most  int
	}{
		// What is there already, and consts.
		{1, []string{"r0:8"}, []int{0}, 0}, {3, []string{"r0:8", "r1:8"}, []int{0, 1}, 0}, {3, []string{"r0:8", "r0:8"}, []int{0, 1}, 1}, {3, []string{"r0:8", "r1:8"}, []int{1, 0}, 3}, {3, []string{"7:8", "7:8"}, []int{1, 0}, 2}, {2, []string{"7:8", "r0:8"}, []int{0, 1}, 2}, {2, []string{"r0:8", "7:8"}, []int{1, 0}, 2},
		// Flags.
		{2, []string{"(zext 8 (ult r0:8 r1:8))"}, []int{1}, 1}, {2, []string{"(zext 8 (not (eq r0:8 r1:8)))"}, []int{0}, 3}, {3, []string{"(zext 8 (eq (eq r0:8 r1:8) (ult r0:8 r1:8)))"}, []int{0}, 3}, {3, []string{"(zext 8 1:1)"}, []int{0}, 1}, {4, []string{"(zext 8 (ite (eq r0:8 r1:8) (ult r0:8 r1:8) (slt r0:8 r1:8)))"}, []int{0}, 4},
		// Conditions, also those that sel tests.
		{3, []string{"(ite (ult r0:8 r1:8) r0:8 r1:8)"}, []int{0}, 2}, {3, []string{"(ite (eq r2:8 0:8) r0:8 r1:8)"}, []int{0}, 1}, {3, []string{"(ite (eq 0:8 r2:8) r0:8 r1:8)"}, []int{0}, 1}, {3, []string{"(ite (not (eq r2:8 0:8)) r0:8 r1:8)"}, []int{0}, 1}, {3, []string{"(ite (not (ult r0:8 r1:8)) r0:8 r1:8)"}, []int{0}, 2}, {3, []string{"(ite (eq (zext 8 (ult r0:8 r1:8)) 0:8) r0:8 r1:8)"}, []int{0}, 2}, {3, []string{"(ite (eq (ult r0:8 r1:8) 0:1) r0:8 r1:8)"}, []int{0}, 2}, {4, []string{"(ite (eq r2:8 1:8) r0:8 r1:8)"}, []int{0}, 3},
		// Consts are kept where registers are free, and set again where not.
		{3, []string{"(add (mul (add r0:8 5:8) 5:8) 5:8)"}, []int{0}, 4}, {2, []string{"(add (mul (add r0:8 5:8) 6:8) 5:8)"}, []int{0}, 6}, {3, []string{"(add (mul (add r0:8 5:8) 6:8) 5:8)"}, []int{0}, 5}, {3, []string{"(add (mul (add r0:8 5:8) 6:8) (add 7:8 5:8))"}, []int{0}, 9}, {2, []string{"(add r0:8 5:8)", "5:8"}, []int{0, 1}, 2},
		// Different orders of operands.
		{2, []string{"(neg (or (not (mul r1:8 r0:8)) (sub (mul r1:8 r0:8) (neg r1:8))))"}, []int{0}, 6}, {3, []string{"(sub (neg r1:8) (zext 8 (or (eq 1:1 0:1) (eq 0:8 r1:8))))"}, []int{0}, 7}, {4, []string{"(neg (xor (lshr (add r1:8 r3:8) (and 174:8 49:8)) r0:8))"}, []int{0}, 7}, {3, []string{"(sub (udiv 60:8 187:8) (xor r2:8 r0:8))"}, []int{0}, 5}, {4, []string{"(not (zext 8 (eq (ite 0:1 116:8 r2:8) (and r0:8 r3:8))))"}, []int{0}, 6},
		// The order of terms, and of registers.
		{3, []string{"1:8", "(or (neg (ite (eq r2:8 0:8) r2:8 r2:8)) 1:8)"}, []int{0, 1}, 4},
		{2, []string{"(not r0:8)", "(add r0:8 r1:8)"}, []int{0, 1}, 2}, {2, []string{"(add r0:8 r1:8)", "(not r1:8)"}, []int{0, 1}, 2}, {3, []string{"(add r0:8 r1:8)", "(sub r0:8 r1:8)"}, []int{0, 1}, 3}, {3, []string{"(add r0:8 r1:8)", "(add r1:8 r2:8)", "(not r2:8)"}, []int{0, 1, 2}, 3}, {3, []string{"(not r2:8)", "(add r1:8 r2:8)", "(add r0:8 r1:8)"}, []int{2, 1, 0}, 3}, {4, []string{"r1:8", "(not r2:8)"}, []int{0, 1}, 2}, {3, []string{"(and r0:8 r2:8)", "(or (and r0:8 r2:8) (add r0:8 r1:8))"}, []int{0, 2}, 3}, {3, []string{"(sub (not r0:8) (mul r1:8 (add r1:8 r2:8)))"}, []int{0}, 4},
	} {
		code, e := lower.Run(8, c.regs, readAll(t, c.terms...), c.out, nil)
		if e != api.OK || len(code.Ins) > c.most {
			t.Errorf("case %d, %v: %s%d", i, c.terms, isa.Print(code), e)
		}
	}
}
