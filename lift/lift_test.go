package lift_test

import (
	"math"
	"math/rand/v2"
	"slices"
	"strconv"
	"strings"
	"testing"

	"saturate/api"
	"saturate/eval"
	"saturate/exec"
	"saturate/isa"
	"saturate/lift"
	"saturate/subst"
	"saturate/term"
	"saturate/termtext"
)

// code reads a program.
func code(t *testing.T, s string) api.Code {
	t.Helper()
	c, _, e := isa.Parse(s)
	if e != api.OK {
		t.Fatalf("%s: %d", s, e)
	}
	return c
}

// texts returns the texts of terms.
func texts(l []api.Term) []string {
	var s []string
	for _, x := range l {
		s = append(s, termtext.Print(x))
	}
	return s
}

// TestExample checks the example of chapter 51.
func TestExample(t *testing.T) {
	l, trap, e := lift.Run(code(t, "width 8 regs 2\nadd r0 r0 r1\nmul r0 r0 r0\nout r0\n"))
	if e != api.OK || !slices.Equal(texts(l), []string{"(mul (add r0:8 r1:8) (add r0:8 r1:8))"}) || termtext.Print(trap) != "0:1" {
		t.Error(texts(l), termtext.Print(trap), e)
	}
}

// TestVar checks Var of P51.1.
func TestVar(t *testing.T) {
	for _, c := range []struct {
		w, reg int
		want   string
	}{{8, 0, "r0:8"}, {64, 7, "r7:64"}, {1, 3, "r3:1"}, {8, -1, "r0:8"}, {8, 8, "r7:8"}, {8, math.MinInt, "r0:8"}, {8, math.MaxInt, "r7:8"}, {0, 1, "r1:1"}, {-5, 1, "r1:1"}, {65, 1, "r1:64"}, {math.MaxInt, 99, "r7:64"}, {math.MinInt, -99, "r0:1"}} {
		if s := termtext.Print(lift.Var(c.w, c.reg)); s != c.want {
			t.Errorf("Var(%d, %d) is %s, not %s", c.w, c.reg, s, c.want)
		}
	}
}

// vars returns the terms x, y, z of a width.
func vars(w int) []api.Term {
	return []api.Term{term.Var("x", w), term.Var("y", w), term.Var("z", w)}
}

// TestValue checks Value of P51.1 for all operations.
func TestValue(t *testing.T) {
	for _, c := range []struct {
		op   api.MOp
		want string
	}{
		{api.MMovi, "9:4"}, {api.MMov, "x:4"}, {api.MNot, "(not x:4)"}, {api.MNeg, "(neg x:4)"}, {api.MAnd, "(and x:4 y:4)"}, {api.MOr, "(or x:4 y:4)"}, {api.MXor, "(xor x:4 y:4)"}, {api.MAdd, "(add x:4 y:4)"}, {api.MSub, "(sub x:4 y:4)"}, {api.MMul, "(mul x:4 y:4)"}, {api.MDiv, "(udiv x:4 y:4)"}, {api.MRem, "(urem x:4 y:4)"}, {api.MShl, "(shl x:4 y:4)"}, {api.MShr, "(lshr x:4 y:4)"}, {api.MSar, "(ashr x:4 y:4)"},
		{api.MEq, "(zext 4 (eq x:4 y:4))"}, {api.MUlt, "(zext 4 (ult x:4 y:4))"}, {api.MSlt, "(zext 4 (slt x:4 y:4))"}, {api.MSel, "(ite (eq x:4 0:4) z:4 y:4)"},
	} {
		// Dst is not examined.
		for _, dst := range []int{0, -1, 99} {
			x, ok := lift.Value(4, api.Ins{Op: c.op, Dst: dst, A: 0, B: 1, C: 2, Imm: 25}, vars(4))
			if !ok || termtext.Print(x) != c.want || term.Check(x) != api.OK {
				t.Errorf("%s: %s, %v, not %s", isa.Name(c.op), termtext.Print(x), ok, c.want)
			}
		}
		for missing := range isa.Sources(c.op) {
			for _, r := range []int{-1, 3, math.MinInt, math.MaxInt} {
				i := api.Ins{Op: c.op, B: 1, C: 2}
				*[]*int{&i.A, &i.B, &i.C}[missing] = r
				if x, ok := lift.Value(4, i, vars(4)); ok || !term.Same(x, api.Term{}) {
					t.Errorf("%s with the register %d: %v, %v", isa.Name(c.op), r, x, ok)
				}
			}
		}
	}
	for _, op := range []api.MOp{api.MNop, 20, -1, math.MaxInt, math.MinInt} {
		if x, ok := lift.Value(4, api.Ins{Op: op}, vars(4)); ok || !term.Same(x, api.Term{}) {
			t.Errorf("operation %d: %v, %v", op, x, ok)
		}
	}
	if x, ok := lift.Value(4, api.Ins{Op: api.MMovi, A: 7, B: -1, C: 9}, nil); !ok || termtext.Print(x) != "0:4" {
		t.Error("registers that are not used:", x, ok)
	}
	many := append(vars(4), make([]api.Term, 20)...)
	many[22] = term.Var("last", 4)
	if x, ok := lift.Value(4, api.Ins{Op: api.MNot, A: 22}, many); !ok || termtext.Print(x) != "(not last:4)" {
		t.Error("many registers:", x, ok)
	}
}

// TestWidths checks the widths of the nodes of P51.1.
func TestWidths(t *testing.T) {
	for _, c := range []struct {
		w, width int
		imm      uint64
	}{{1, 1, 1}, {0, 1, 1}, {-7, 1, 1}, {math.MinInt, 1, 1}, {64, 64, math.MaxUint64}, {65, 64, math.MaxUint64}, {math.MaxInt, 64, math.MaxUint64}, {7, 7, 127}} {
		l := vars(c.width)
		for op := api.MMovi; op <= api.MSel; op++ {
			x, ok := lift.Value(c.w, api.Ins{Op: op, A: 0, B: 1, C: 2, Imm: math.MaxUint64}, l)
			if !ok || term.Check(x) != api.OK || x.Width != c.width || op == api.MMovi && x.Val != c.imm {
				t.Errorf("%s of width %d: %v, %v", isa.Name(op), c.w, x, ok)
			}
		}
		if x, ok := lift.Trap(c.w, api.Ins{Op: api.MDiv, A: 0, B: 1}, l); !ok || term.Check(x) != api.OK || x.Width != 1 {
			t.Errorf("the trap of width %d: %v, %v", c.w, x, ok)
		}
	}
	// The width is that of the nodes, whatever the registers are.
	if x, ok := lift.Value(4, api.Ins{Op: api.MEq, A: 0, B: 1}, vars(8)); !ok || x.Width != 4 || x.Args[0].Width != 1 || x.Args[0].Args[0].Width != 8 {
		t.Error(x, ok)
	}
	if x, ok := lift.Value(4, api.Ins{Op: api.MAdd, A: 0, B: 1}, vars(8)); !ok || x.Width != 4 {
		t.Error(x, ok)
	}
}

// TestTrap checks Trap of P51.1.
func TestTrap(t *testing.T) {
	for op := api.MOp(-1); op <= 20; op++ {
		for _, regs := range [][2]int{{0, 1}, {1, 2}, {3, 1}, {0, 3}, {-1, 1}, {0, -1}} {
			x, ok := lift.Trap(8, api.Ins{Op: op, Dst: 9, A: regs[0], B: regs[1]}, vars(8))
			want := (op == api.MDiv || op == api.MRem) && min(regs[0], regs[1]) >= 0 && max(regs[0], regs[1]) < 3
			if ok != want || ok && !term.Same(x, term.Make(api.OpEq, vars(8)[regs[1]], term.Const(8, 0))) || !ok && !term.Same(x, api.Term{}) {
				t.Errorf("%s with the registers %v: %v, %v", isa.Name(op), regs, x, ok)
			}
		}
	}
}

// TestRun checks Run and Divisors of P51.2 for programs of which some can trap.
func TestRun(t *testing.T) {
	for i, c := range []struct {
		text           string
		outs, divisors []string
		trap           string
	}{
		{"width 8 regs 3\nout r2 r0\n", []string{"r2:8", "r0:8"}, nil, "0:1"},
		{"width 8 regs 8\nmov r0 r7\nnop\nmovi r7 255\nout r7 r0\n", []string{"255:8", "r7:8"}, nil, "0:1"},
		{"width 8 regs 2\ndiv r0 r0 r1\nout\n", nil, []string{"r1:8"}, "(eq r1:8 0:8)"},
		{"width 1 regs 2\nrem r0 r1 r1\neq r1 r0 r1\nout r1\n", []string{"(zext 1 (eq (urem r1:1 r1:1) r1:1))"}, []string{"r1:1"}, "(eq r1:1 0:1)"},
		// The divisor is that before the instruction, and dead instructions count.
		{"width 8 regs 3\ndiv r1 r0 r1\nrem r2 r0 r1\ndiv r0 r2 r2\nmovi r0 1\nout r0\n", []string{"1:8"}, []string{"r1:8", "(udiv r0:8 r1:8)", "(urem r0:8 (udiv r0:8 r1:8))"}, "(or (or (eq r1:8 0:8) (eq (udiv r0:8 r1:8) 0:8)) (eq (urem r0:8 (udiv r0:8 r1:8)) 0:8))"},
		{"width 8 regs 3\ndiv r0 r0 r1\ndiv r0 r0 r2\nrem r2 r0 r1\nout r2\n", []string{"(urem (udiv (udiv r0:8 r1:8) r2:8) r1:8)"}, []string{"r1:8", "r2:8"}, "(or (or (eq r1:8 0:8) (eq r2:8 0:8)) (eq r1:8 0:8))"},
		{"width 4 regs 2\nmovi r1 3\ndiv r0 r0 r1\nout r0\n", []string{"(udiv r0:4 3:4)"}, []string{"3:4"}, "(eq 3:4 0:4)"},
		{"width 4 regs 3\nsel r0 r0 r1 r2\nslt r1 r0 r0\nout r1\n", []string{"(zext 4 (slt (ite (eq r0:4 0:4) r2:4 r1:4) (ite (eq r0:4 0:4) r2:4 r1:4)))"}, nil, "0:1"},
	} {
		l, trap, e := lift.Run(code(t, c.text))
		if e != api.OK || !slices.Equal(texts(l), c.outs) || termtext.Print(trap) != c.trap {
			t.Errorf("case %d: %v, %s, %d", i, texts(l), termtext.Print(trap), e)
		}
		if d, e := lift.Divisors(code(t, c.text)); e != api.OK || !slices.Equal(texts(d), c.divisors) {
			t.Errorf("case %d: the divisors are %v, %d", i, texts(d), e)
		}
	}
}

// checkError checks that Run and Divisors return an error, and nothing else.
func checkError(t *testing.T, what string, c api.Code, want api.Errno) {
	t.Helper()
	if l, trap, e := lift.Run(c); e != want || e != api.OK && (len(l) > 0 || !term.Same(trap, api.Term{})) {
		t.Errorf("%s: Run is %v, %v, %d, not %d", what, texts(l), termtext.Print(trap), e, want)
	}
	if l, e := lift.Divisors(c); e != want || e != api.OK && len(l) > 0 {
		t.Errorf("%s: Divisors is %v, %d, not %d", what, texts(l), e, want)
	}
}

// TestErrors checks the errors of P51.2.
func TestErrors(t *testing.T) {
	add := api.Ins{Op: api.MAdd}
	for i, c := range []struct {
		c    api.Code
		want api.Errno
	}{
		{api.Code{}, api.ErrWidth}, {api.Code{Width: 65, Regs: 1}, api.ErrWidth}, {api.Code{Width: 8, Regs: 0}, api.ErrReg}, {api.Code{Width: 8, Regs: 9}, api.ErrReg}, {api.Code{Width: 8, Regs: 1, Ins: make([]api.Ins, 257)}, api.ErrLong}, {api.Code{Width: 8, Regs: 1, Ins: make([]api.Ins, 256)}, api.OK},
		{api.Code{Width: 8, Regs: 1, Ins: []api.Ins{{Op: 20}}}, api.ErrOp}, {api.Code{Width: 8, Regs: 1, Ins: []api.Ins{{Op: api.MAdd, B: 1}}}, api.ErrReg}, {api.Code{Width: 8, Regs: 1, Ins: []api.Ins{{Op: api.MMovi, Imm: 256}}}, api.ErrRange}, {api.Code{Width: 8, Regs: 1, Ins: []api.Ins{{Op: api.MAdd, C: 1}}}, api.ErrForm}, {api.Code{Width: 8, Regs: 1, Out: []int{1}}, api.ErrReg}, {api.Code{Width: 8, Regs: 1, Out: []int{0, 0}}, api.ErrDup},
		// The program is checked before anything is executed.
		{api.Code{Width: 8, Regs: 1, Ins: slices.Repeat([]api.Ins{add}, 30), Out: []int{0, 0}}, api.ErrDup}, {api.Code{Width: 8, Regs: 1, Ins: append(slices.Repeat([]api.Ins{add}, 30), api.Ins{Op: 99})}, api.ErrOp},
	} {
		checkError(t, "case "+strconv.Itoa(i), c.c, c.want)
	}
}

// program returns a program of width 8 with repeated lines.
func program(t *testing.T, out string, parts ...any) api.Code {
	t.Helper()
	s := "width 8 regs 8\n"
	for i := 0; i < len(parts); i += 2 {
		s += strings.Repeat(parts[i+1].(string)+"\n", parts[i].(int))
	}
	return code(t, s+"out"+out+"\n")
}

// TestLong checks the limits of P51.2: for the size and the depth of values, also of those that do not count at the end, and of the trap condition.
func TestLong(t *testing.T) {
	for i, c := range []struct {
		c    api.Code
		want api.Errno
	}{
		// After k doublings there are 2^(k+1) - 1 nodes.
		{program(t, " r0", 11, "add r0 r0 r0"), api.OK}, {program(t, " r0", 12, "add r0 r0 r0"), api.ErrLong}, {program(t, " r0", 11, "add r0 r0 r0", 1, "not r0 r0"), api.OK}, {program(t, " r0", 11, "add r0 r0 r0", 2, "not r0 r0"), api.ErrLong}, {program(t, "", 256, "add r0 r0 r0"), api.ErrLong},
		{program(t, " r1", 12, "add r0 r0 r0", 1, "movi r0 0"), api.ErrLong}, {program(t, " r1", 11, "add r0 r0 r0", 1, "movi r0 0"), api.OK},
		{program(t, " r0", 63, "not r0 r0"), api.OK}, {program(t, " r0", 64, "not r0 r0"), api.ErrLong}, {program(t, " r1", 64, "not r0 r0", 1, "mov r0 r1"), api.ErrLong}, {program(t, " r0", 31, "eq r0 r0 r1"), api.OK}, {program(t, " r0", 32, "eq r0 r0 r1"), api.ErrLong},
		// The divisor has two nodes less than its condition.
		{program(t, " r1", 62, "not r0 r0", 1, "div r1 r1 r0"), api.OK}, {program(t, " r2", 63, "not r0 r0", 1, "div r1 r1 r0"), api.ErrLong}, {program(t, " r2", 11, "add r0 r0 r0", 1, "mov r1 r0"), api.OK}, {program(t, " r2", 11, "add r0 r0 r0", 1, "not r0 r0", 1, "movi r1 0", 1, "rem r1 r1 r0"), api.ErrLong},
		{program(t, "", 63, "div r0 r1 r2"), api.OK}, {program(t, "", 64, "div r0 r1 r2"), api.ErrLong}, {program(t, "", 1, "add r2 r2 r2", 63, "div r0 r1 r2"), api.ErrLong}, {program(t, "", 256, "rem r0 r1 r2"), api.ErrLong},
		// A disjunction of k conditions with 2^k + 1 nodes each.
		{program(t, "", 9, "add r2 r2 r2", 3, "div r0 r1 r2"), api.OK}, {program(t, "", 9, "add r2 r2 r2", 4, "div r0 r1 r2"), api.ErrLong},
	} {
		checkError(t, "case "+strconv.Itoa(i), c.c, c.want)
	}
}

// TestEnv checks P51.3.
func TestEnv(t *testing.T) {
	bind := func(vals ...uint64) []api.Bind {
		var l []api.Bind
		for r, val := range vals {
			l = append(l, api.Bind{Name: "r" + strconv.Itoa(r), Val: val})
		}
		return l
	}
	for i, c := range []struct {
		width, regs int
		state       []uint64
		want        []api.Bind
	}{
		{8, 3, []uint64{1, 256, 511}, bind(1, 0, 255)}, {8, 3, []uint64{7}, bind(7, 0, 0)}, {8, 2, nil, bind(0, 0)}, {8, 1, []uint64{1, 2, 3}, bind(1)}, {64, 2, []uint64{math.MaxUint64, 5}, bind(math.MaxUint64, 5)},
		{8, 0, []uint64{1}, nil}, {8, -1, []uint64{1}, nil}, {8, math.MinInt, nil, nil}, {8, 9, []uint64{1, 2, 3, 4, 5, 6, 7, 8, 9}, bind(1, 2, 3, 4, 5, 6, 7, 8)}, {8, math.MaxInt, []uint64{1}, bind(1, 0, 0, 0, 0, 0, 0, 0)},
		{0, 2, []uint64{2, 3}, bind(0, 1)}, {-9, 1, []uint64{3}, bind(1)}, {65, 1, []uint64{math.MaxUint64}, bind(math.MaxUint64)},
	} {
		// The program need not be valid otherwise.
		got := lift.Env(api.Code{Width: c.width, Regs: c.regs, Ins: []api.Ins{{Op: 99}}, Out: []int{-1}}, c.state)
		if !slices.Equal(got, c.want) {
			t.Errorf("case %d: %v, not %v", i, got, c.want)
		}
	}
}

// random returns a valid program.
func random(r *rand.Rand, most int) api.Code {
	regs := 1 + r.IntN(8)
	c := api.Code{Width: []int{1, 2, 3, 8, 64}[r.IntN(5)], Regs: regs}
	for range r.IntN(most + 1) {
		op := api.MOp(r.IntN(20))
		i := api.Ins{Op: op}
		if op != api.MNop {
			i.Dst = r.IntN(regs)
		}
		if op == api.MMovi {
			i.Imm = r.Uint64() >> (64 - c.Width)
		}
		for _, source := range []*int{&i.A, &i.B, &i.C}[:isa.Sources(op)] {
			*source = r.IntN(regs)
		}
		c.Ins = append(c.Ins, i)
	}
	c.Out = r.Perm(regs)[:r.IntN(regs+1)]
	return c
}

// TestMeaning checks P51.4 for random programs and states.
func TestMeaning(t *testing.T) {
	traps, ends := 0, 0
	for seed := range uint64(1500) {
		r := rand.New(rand.NewPCG(seed, 51))
		c := random(r, 9)
		l, trap, e := lift.Run(c)
		if e != api.OK || trap.Width != 1 || len(l) != len(c.Out) {
			t.Fatalf("%s: %d", isa.Print(c), e)
		}
		for range 12 {
			var state []uint64
			for range r.IntN(c.Regs + 2) {
				state = append(state, []uint64{0, 0, 1, 2, math.MaxUint64, r.Uint64()}[r.IntN(6)])
			}
			env := lift.Env(c, state)
			trapped, e := eval.Eval(trap, env)
			if e != api.OK {
				t.Fatalf("%s: the trap condition %s has no value: %d", isa.Print(c), termtext.Print(trap), e)
			}
			outs, e := exec.Outs(c, state)
			if (e == api.ErrTrap) != (trapped == 1) {
				t.Fatalf("%s: %d for %v, but the trap condition is %d", isa.Print(c), e, state, trapped)
			}
			if e != api.OK {
				traps++
				continue
			}
			ends++
			for k, x := range l {
				if val, e := eval.Eval(x, env); e != api.OK || val != outs[k] || x.Width != c.Width {
					t.Fatalf("%s: %s is %d, %d for %v, not %d", isa.Print(c), termtext.Print(x), val, e, state, outs[k])
				}
			}
		}
	}
	if traps < 1000 || ends < 5000 {
		t.Error(traps, ends)
	}
}

// TestSteps checks that Run combines Value and Trap: the program that continues another one has its terms for the initial values.
func TestSteps(t *testing.T) {
	for seed := range uint64(300) {
		r := rand.New(rand.NewPCG(seed, 511))
		c := random(r, 8)
		c.Out = nil
		var regs []api.Term
		for reg := range c.Regs {
			regs, c.Out = append(regs, lift.Var(c.Width, reg)), append(c.Out, reg)
		}
		var traps []api.Term
		for _, i := range c.Ins {
			if x, ok := lift.Trap(c.Width, i, regs); ok {
				traps = append(traps, x)
			}
			if x, ok := lift.Value(c.Width, i, regs); ok {
				regs[i.Dst] = x
			}
		}
		l, trap, e := lift.Run(c)
		if e != api.OK || !slices.EqualFunc(l, regs, term.Same) {
			t.Fatalf("%s: %v, %d, not %v", isa.Print(c), texts(l), e, texts(regs))
		}
		for k := len(traps) - 1; k > 0; k-- {
			if trap.Op != api.OpOr || !term.Same(trap.Args[1], traps[k]) {
				t.Fatalf("%s: the trap condition ends with %s", isa.Print(c), termtext.Print(trap))
			}
			trap = trap.Args[0]
		}
		if len(traps) > 0 && !term.Same(trap, traps[0]) {
			t.Fatalf("%s: the trap condition begins with %s", isa.Print(c), termtext.Print(trap))
		}
		split := r.IntN(len(c.Ins) + 1)
		first, second := c, c
		first.Ins, second.Ins = c.Ins[:split], c.Ins[split:]
		before, _, _ := lift.Run(first)
		after, _, _ := lift.Run(second)
		var subs []api.Sub
		for reg, x := range before {
			subs = append(subs, api.Sub{Name: "r" + strconv.Itoa(reg), Term: x})
		}
		for reg, x := range after {
			if !term.Same(subst.Replace(x, subs), l[reg]) {
				t.Fatalf("%s: after instruction %d, register %d is %s", isa.Print(c), split, reg, termtext.Print(x))
			}
		}
	}
}

// spoil changes the first operand of a term, that of this operand, and so on.
func spoil(x api.Term) {
	for len(x.Args) > 0 {
		next := x.Args[0]
		x.Args[0].Op = api.OpXor
		x = next
	}
}

// checkSpoil checks that spoiling a term changes neither its other operands nor other terms.
func checkSpoil(t *testing.T, what string, x api.Term, others ...api.Term) {
	t.Helper()
	before := texts(others)
	var operands []string
	if len(x.Args) > 0 {
		operands = texts(x.Args[1:])
	}
	spoil(x)
	if !slices.Equal(texts(others), before) {
		t.Errorf("%s shares memory with others", what)
	}
	if len(x.Args) > 0 && !slices.Equal(texts(x.Args[1:]), operands) {
		t.Errorf("%s has operands that share memory", what)
	}
}

// TestMemory checks general rule 5.
func TestMemory(t *testing.T) {
	c := code(t, "width 8 regs 3\nnot r0 r0\nadd r1 r0 r0\ndiv r2 r0 r1\ndiv r2 r1 r1\nadd r2 r1 r1\nout r0 r1 r2\n")
	given := isa.Copy(c)
	for range 2 {
		l, trap, _ := lift.Run(c)
		if !slices.Equal(texts(l), []string{"(not r0:8)", "(add (not r0:8) (not r0:8))", "(add (add (not r0:8) (not r0:8)) (add (not r0:8) (not r0:8)))"}) {
			t.Fatal(texts(l))
		}
		d, _ := lift.Divisors(c)
		all := slices.Concat(l, []api.Term{trap}, d)
		for i, x := range all {
			checkSpoil(t, strconv.Itoa(i), x, all[i+1:]...)
		}
		if !isa.Same(c, given) {
			t.Error("the program is changed")
		}
	}
	regs := []api.Term{term.Make(api.OpNot, term.Var("x", 8))}
	for op := api.MMov; op <= api.MSel; op++ {
		x, _ := lift.Value(8, api.Ins{Op: op}, regs)
		if op == api.MEq || op == api.MUlt || op == api.MSlt {
			x = x.Args[0] // below zext
		}
		checkSpoil(t, isa.Name(op), x, regs...)
	}
	x, _ := lift.Trap(8, api.Ins{Op: api.MDiv}, regs)
	checkSpoil(t, "the trap condition", x, regs...)
}
