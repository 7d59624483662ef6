package refine_test

import (
	"math"
	"math/rand/v2"
	"slices"
	"strconv"
	"testing"

	"saturate/api"
	"saturate/cvec"
	"saturate/exec"
	"saturate/isa"
	"saturate/live"
	"saturate/refine"
)

// code reads a program.
func code(t *testing.T, s string) api.Code {
	t.Helper()
	c, _, e := isa.Parse(s)
	if e != api.OK {
		t.Fatalf("%s: %d", s, e)
	}
	return c
}

// small reads the instructions of a program of width 2 with three registers and one result.
func small(t *testing.T, lines string) api.Code {
	t.Helper()
	return code(t, "width 2 regs 3\n"+lines+"out r0\n")
}

// refuted reports whether, for a state, c does not trap, but d traps or has other results.
func refuted(c, d api.Code, state []uint64) bool {
	want, e := exec.Outs(c, state)
	outs, f := exec.Outs(d, state)
	return e == api.OK && (f != api.OK || !slices.Equal(outs, want))
}

// first returns the first refuted state in the order in which lower registers vary faster, or nothing. Registers that are not inputs are 0.
func first(c, d api.Code) []uint64 {
	inputs := append(live.Inputs(c), live.Inputs(d)...)
	var found []uint64
	state := make([]uint64, c.Regs)
	var visit func(r int)
	visit = func(r int) {
		if r < 0 {
			if found == nil && refuted(c, d, state) {
				found = slices.Clone(state)
			}
			return
		}
		state[r] = 0
		visit(r - 1)
		for state[r] = 1; slices.Contains(inputs, r) && state[r] < 1<<c.Width; state[r]++ {
			visit(r - 1)
		}
		state[r] = 0
	}
	visit(c.Regs - 1)
	return found
}

// TestExample checks the example of chapter 53, and example 10 of the document.
func TestExample(t *testing.T) {
	zero, sub, rem, xor := small(t, "movi r0 0\n"), small(t, "sub r0 r1 r1\n"), small(t, "rem r0 r1 r1\n"), small(t, "xor r0 r0 r0\n")
	for i, c := range []struct {
		c, d  api.Code
		want  bool
		state []uint64
	}{{sub, zero, true, nil}, {zero, sub, true, nil}, {rem, zero, true, nil}, {zero, rem, false, []uint64{0, 0, 0}}, {sub, xor, true, nil}, {xor, sub, true, nil}, {rem, rem, true, nil}, {sub, rem, false, []uint64{0, 0, 0}}} {
		if ok, s, e := refine.Check(c.c, c.d); ok != c.want || !slices.Equal(s, c.state) || e != api.OK {
			t.Errorf("case %d: %v, %v, %d", i, ok, s, e)
		}
	}
}

// TestErrors checks the errors of States and Check (P53.1, P53.2), and their order.
func TestErrors(t *testing.T) {
	add := api.Code{Width: 8, Regs: 3, Ins: []api.Ins{{Op: api.MAdd, A: 1, B: 2}}, Out: []int{0}}
	with := func(change func(c *api.Code)) api.Code {
		c := isa.Copy(add)
		change(&c)
		return c
	}
	noWidth, noReg, badOp, dup := with(func(c *api.Code) { c.Width = 65 }), with(func(c *api.Code) { c.Regs = 0 }), with(func(c *api.Code) { c.Ins[0].Op = 20 }), with(func(c *api.Code) { c.Out = []int{1, 1} })
	width, regs, outs, order := with(func(c *api.Code) { c.Width = 9 }), with(func(c *api.Code) { c.Regs = 4 }), with(func(c *api.Code) { c.Out = []int{0, 1} }), with(func(c *api.Code) { c.Out = []int{1, 0} })
	third := with(func(c *api.Code) { c.Ins[0].A, c.Ins[0].B = 0, 1 })
	for i, c := range []struct {
		c, d api.Code
		want api.Errno
	}{
		{noWidth, badOp, api.ErrWidth}, {badOp, noWidth, api.ErrOp}, {noReg, dup, api.ErrReg}, {dup, noReg, api.ErrDup}, {add, noWidth, api.ErrWidth}, {add, badOp, api.ErrOp}, {add, dup, api.ErrDup}, {width, dup, api.ErrDup}, {api.Code{}, add, api.ErrWidth},
		{add, width, api.ErrArg}, {width, add, api.ErrArg}, {add, regs, api.ErrArg}, {regs, add, api.ErrArg}, {add, outs, api.ErrArg}, {outs, add, api.ErrArg}, {outs, order, api.ErrArg}, {with(func(c *api.Code) { c.Width, c.Regs = 64, 4 }), with(func(c *api.Code) { c.Width = 64 }), api.ErrArg},
		{width, width, api.ErrLong}, {add, third, api.ErrLong}, {third, add, api.ErrLong}, {add, add, api.OK}, {third, third, api.OK}, {outs, outs, api.OK},
		{code(t, "width 16 regs 1\nnot r0 r0\nout r0\n"), code(t, "width 16 regs 1\nneg r0 r0\nout r0\n"), api.OK}, {code(t, "width 17 regs 1\nnot r0 r0\nout r0\n"), code(t, "width 17 regs 1\nmovi r0 0\nout r0\n"), api.ErrLong}, {code(t, "width 64 regs 1\nmovi r0 7\nout r0\n"), code(t, "width 64 regs 1\nmovi r0 7\nout r0\n"), api.OK}, {code(t, "width 2 regs 8\nout r0 r1 r2 r3 r4 r5 r6 r7\n"), code(t, "width 2 regs 8\nout r0 r1 r2 r3 r4 r5 r6 r7\n"), api.OK}, {code(t, "width 3 regs 8\nout r0 r1 r2 r3 r4 r5\n"), code(t, "width 3 regs 8\nout r0 r1 r2 r3 r4 r5\n"), api.ErrLong},
	} {
		l, n, e := refine.States(c.c, c.d)
		if e != c.want || e != api.OK && (len(l) > 0 || n != 0) {
			t.Errorf("case %d: States is %v, %d, %d, not %d", i, l, n, e, c.want)
		}
		ok, s, e := refine.Check(c.c, c.d)
		if e != c.want || e != api.OK && (ok || len(s) > 0) {
			t.Errorf("case %d: Check is %v, %v, %d, not %d", i, ok, s, e, c.want)
		}
		at, ok := refine.Test(c.c, c.d, nil)
		if want := c.want == api.OK || c.want == api.ErrLong; at != -1 || ok != want {
			t.Errorf("case %d: Test is %d, %v", i, at, ok)
		}
	}
}

// TestStates checks the inputs and the number of states of P53.1.
func TestStates(t *testing.T) {
	for i, c := range []struct {
		c, d   string
		inputs []int
		count  int
	}{
		{"movi r0 1\n", "movi r0 2\n", nil, 1}, {"mov r0 r2\n", "movi r0 2\n", []int{2}, 4}, {"movi r0 2\n", "mov r0 r2\n", []int{2}, 4}, {"mov r0 r2\n", "mov r0 r1\n", []int{1, 2}, 16}, {"add r0 r2 r1\n", "not r0 r0\n", []int{0, 1, 2}, 64}, {"", "", []int{0}, 4}, {"movi r1 0\nadd r0 r1 r2\n", "movi r0 0\n", []int{2}, 4},
	} {
		if l, n, e := refine.States(small(t, c.c), small(t, c.d)); !slices.Equal(l, c.inputs) || n != c.count || e != api.OK {
			t.Errorf("case %d: %v, %d, %d", i, l, n, e)
		}
	}
	wide := code(t, "width 16 regs 2\nnot r0 r1\nout r0\n")
	if l, n, e := refine.States(wide, wide); !slices.Equal(l, []int{1}) || n != 65536 || e != api.OK {
		t.Error(l, n, e)
	}
}

// TestState checks State of P53.1.
func TestState(t *testing.T) {
	const most, least = math.MaxInt, math.MinInt
	for i, c := range []struct {
		regs     []int
		w, n, at int
		want     []uint64
	}{
		{[]int{0, 1}, 4, 2, 0x5a, []uint64{10, 5}}, {[]int{1, 0}, 4, 2, 0x5a, []uint64{5, 10}}, {[]int{2}, 3, 4, 6, []uint64{0, 0, 6, 0}},
		// Elements that are ignored count neither for the places nor for the reduction.
		{[]int{-1, 2, 9, 3, 0, least, most}, 4, 3, 0x35a, []uint64{5, 0, 10}}, {[]int{7}, 4, 3, 9, []uint64{0, 0, 0}}, {[]int{8, 7}, 4, 8, 0x19, []uint64{0, 0, 0, 0, 0, 0, 0, 9}},
		// Of equal elements the last one counts.
		{[]int{1, 1}, 4, 2, 0x5a, []uint64{0, 5}}, {[]int{1, 0, 1}, 4, 2, 0x75a, []uint64{5, 7}}, {[]int{0, 0, 0}, 8, 1, 0x1234, []uint64{0}},
		// The index is reduced modulo 2^16, or less.
		{[]int{0}, 16, 1, 65535, []uint64{65535}}, {[]int{0}, 16, 1, 65536, []uint64{0}}, {[]int{0}, 17, 1, 65537, []uint64{1}}, {[]int{0}, 64, 1, 1 << 40, []uint64{0}}, {[]int{0, 1}, 64, 2, 77, []uint64{77, 0}}, {[]int{0, 1, 2}, 7, 3, 1<<16 - 1, []uint64{127, 127, 3}}, {[]int{0, 1, 2}, 2, 3, 64 + 57, []uint64{1, 2, 3}},
		{[]int{0}, 4, 1, -1, []uint64{15}}, {[]int{0, 1}, 3, 2, -2, []uint64{6, 7}}, {[]int{0, 1}, 20, 2, -1, []uint64{65535, 0}}, {[]int{0}, 5, 1, least, []uint64{0}}, {[]int{0}, 5, 1, least + 9, []uint64{9}}, {[]int{0}, 5, 1, most, []uint64{31}},
		// Widths and numbers of registers are clamped.
		{[]int{0, 1}, 0, 2, 3, []uint64{1, 1}}, {[]int{0, 1}, least, 2, 2, []uint64{0, 1}}, {[]int{0}, most, 1, 65535, []uint64{65535}}, {[]int{0, 1}, most, 2, 65535, []uint64{65535, 0}}, {[]int{0, 1}, 65, 2, -1, []uint64{65535, 0}}, {[]int{0, 7, 8}, 2, 9, 0x39, []uint64{1, 0, 0, 0, 0, 0, 0, 2}}, {[]int{0, 7}, 1, most, 3, []uint64{1, 0, 0, 0, 0, 0, 0, 1}}, {[]int{0}, 4, 0, 3, nil}, {[]int{0}, 4, least, 3, nil}, {nil, 4, 2, 3, []uint64{0, 0}},
	} {
		if s := refine.State(c.regs, c.w, c.n, c.at); !slices.Equal(s, c.want) {
			t.Errorf("case %d: %v, not %v", i, s, c.want)
		}
	}
}

// random returns a valid program of width 1 to 3 with the given registers and results.
func random(r *rand.Rand, width, regs, most int, out []int) api.Code {
	c := api.Code{Width: width, Regs: regs, Out: out}
	for range r.IntN(most + 1) {
		op := []api.MOp{api.MDiv, api.MRem, api.MOp(r.IntN(20)), api.MOp(1 + r.IntN(9))}[r.IntN(4)]
		i := api.Ins{Op: op}
		if op != api.MNop {
			i.Dst = r.IntN(regs)
		}
		if op == api.MMovi {
			i.Imm = r.Uint64N(1 << width)
		}
		for _, source := range []*int{&i.A, &i.B, &i.C}[:isa.Sources(op)] {
			*source = r.IntN(regs)
		}
		c.Ins = append(c.Ins, i)
	}
	return c
}

// TestRandom checks P53.2 to P53.4 for random programs.
func TestRandom(t *testing.T) {
	held, failed := 0, 0
	for seed := range uint64(2500) {
		r := rand.New(rand.NewPCG(seed, 53))
		width, regs := 1+r.IntN(3), 1+r.IntN(3)
		out := r.Perm(regs)[:r.IntN(regs+1)]
		var l []api.Code
		for range 3 {
			l = append(l, random(r, width, regs, 3, out))
		}
		var ok [3][3]bool
		for i, c := range l {
			for k, d := range l {
				ok[i][k] = checkPair(t, c, d, r.Uint64())
				if ok[i][k] {
					held++
				} else {
					failed++
				}
			}
		}
		for i := range l {
			if !ok[i][i] {
				t.Fatalf("%s does not refine itself", isa.Print(l[i]))
			}
			for k := range l {
				for j := range l {
					if ok[i][k] && ok[k][j] && !ok[i][j] {
						t.Fatalf("not transitive: %s%s%s", isa.Print(l[i]), isa.Print(l[k]), isa.Print(l[j]))
					}
				}
			}
		}
	}
	if held < 5000 || failed < 5000 {
		t.Error(held, failed)
	}
}

// checkPair checks Check and Test for two programs, and returns whether d refines c.
func checkPair(t *testing.T, c, d api.Code, seed uint64) bool {
	t.Helper()
	want := first(c, d)
	ok, state, e := refine.Check(c, d)
	if ok != (want == nil) || !slices.Equal(state, want) || e != api.OK {
		t.Fatalf("%s%s%v, %v, %d, not %v", isa.Print(c), isa.Print(d), ok, state, e, want)
	}
	states := refine.Corners(c.Width, c.Regs, 12, seed)
	at := slices.IndexFunc(states, func(s []uint64) bool { return refuted(c, d, s) })
	if got, fine := refine.Test(c, d, states); got != at || fine != (at < 0) || ok && !fine {
		t.Fatalf("%s%sTest is %d, %v, not %d", isa.Print(c), isa.Print(d), got, fine, at)
	}
	return ok
}

// TestGiven checks Test of P53.3 for states of all kinds.
func TestGiven(t *testing.T) {
	and, or, div := small(t, "and r0 r1 r2\n"), small(t, "or r0 r1 r2\n"), small(t, "div r0 r1 r2\n")
	for i, c := range []struct {
		c, d   api.Code
		states [][]uint64
		at     int
	}{
		{and, or, nil, -1}, {and, or, [][]uint64{nil, {}, {0, 3, 3}, {3, 2, 2, 7}}, -1}, {and, or, [][]uint64{nil, {0, 1}, {0, 2}}, 1}, {and, or, [][]uint64{{0, 4, 8}, {0, 5, 9}, {0, 5, 10}, {0, 1, 2}}, 2}, {and, or, [][]uint64{{0, 2, 2, 1}, {0, 1, 0}}, 1},
		{div, and, [][]uint64{nil, {0, 3}, {0, 3, 4}, {0, 0, 2}, {0, 1, 1}}, -1}, {div, and, [][]uint64{{0, 3}, {0, 3, 1}, {0, 2, 1}}, 1}, {and, div, [][]uint64{{0, 0, 1}, {0, 0, 0}}, 1},
		// Registers that are no inputs, and more states than there are different ones.
		{and, or, [][]uint64{{7, 0, 0}, {9, 1, 1}, {1, 2, 1}}, 2}, {and, or, append(make([][]uint64, 1000), []uint64{0, 3, 0}), 1000},
	} {
		if at, ok := refine.Test(c.c, c.d, c.states); at != c.at || ok != (c.at < 0) {
			t.Errorf("case %d: %d, %v, not %d", i, at, ok, c.at)
		}
	}
	// The programs may have more inputs than Check allows.
	wide, other := code(t, "width 64 regs 2\nadd r0 r0 r1\nout r0\n"), code(t, "width 64 regs 2\nsub r0 r0 r1\nout r0\n")
	if at, ok := refine.Test(wide, other, [][]uint64{{5, 0}, {1, 1 << 63}, {1, 1}}); at != 2 || ok {
		t.Error(at, ok)
	}
	if at, ok := refine.Test(wide, wide, refine.Corners(64, 2, 50, 3)); at != -1 || !ok {
		t.Error(at, ok)
	}
}

// TestInvalid checks Test of P53.3 for programs that are not valid or differ.
func TestInvalid(t *testing.T) {
	c := small(t, "and r0 r1 r2\n")
	for i, change := range []func(d *api.Code){
		func(d *api.Code) { d.Width = 0 }, func(d *api.Code) { d.Ins[0].A = 3 }, func(d *api.Code) { d.Out = []int{3} }, func(d *api.Code) { d.Width = 3 }, func(d *api.Code) { d.Regs = 4 }, func(d *api.Code) { d.Out = []int{1} }, func(d *api.Code) { d.Out = nil }, func(d *api.Code) { d.Out = []int{0, 1} },
	} {
		d := isa.Copy(c)
		change(&d)
		for _, states := range [][][]uint64{nil, {{0, 1, 2}}} {
			if at, ok := refine.Test(c, d, states); at != -1 || ok {
				t.Errorf("case %d: %d, %v", i, at, ok)
			}
			if at, ok := refine.Test(d, c, states); at != -1 || ok {
				t.Errorf("case %d, reversed: %d, %v", i, at, ok)
			}
		}
	}
}

// TestCorners checks Corners of P53.3.
func TestCorners(t *testing.T) {
	if l := refine.Corners(4, 2, 4, 1); !slices.EqualFunc(l, [][]uint64{{0, 0}, {15, 15}, {1, 1}, {8, 8}}, slices.Equal) {
		t.Error(l)
	}
	for _, w := range []int{-1, 0, 1, 7, 64, 65, math.MaxInt} {
		for _, regs := range []int{math.MinInt, -1, 0, 1, 7, 8, 9, math.MaxInt} {
			for _, many := range []int{math.MinInt, -1, 0, 1, 6, 255, 256, 257, math.MaxInt} {
				var vars []api.Var
				for r := range min(max(regs, 0), 8) {
					vars = append(vars, api.Var{Name: "r" + strconv.Itoa(r), Width: w})
				}
				samples := cvec.Samples(vars, many, 99)
				l := refine.Corners(w, regs, many, 99)
				if len(l) != min(max(many, 0), 256) || len(l) != len(samples) {
					t.Fatalf("Corners(%d, %d, %d) are %d states", w, regs, many, len(l))
				}
				for k, state := range l {
					if !slices.EqualFunc(state, samples[k], func(val uint64, b api.Bind) bool { return val == b.Val }) {
						t.Fatalf("state %d of Corners(%d, %d, %d) is %v, not %v", k, w, regs, many, state, samples[k])
					}
				}
			}
		}
	}
	if slices.Equal(refine.Corners(64, 2, 5, 1)[4], refine.Corners(64, 2, 5, 2)[4]) {
		t.Error("the seed has no effect")
	}
}

// TestMany checks P53.2 for the greatest number of states: the last one is the only counterexample.
func TestMany(t *testing.T) {
	c := code(t, "width 8 regs 4\nmovi r0 0\nout r0\n")
	d := code(t, "width 8 regs 4\nmovi r2 255\neq r0 r1 r2\neq r2 r2 r3\nand r0 r0 r2\nout r0\n")
	if ok, s, e := refine.Check(c, d); ok || !slices.Equal(s, []uint64{0, 255, 0, 255}) || e != api.OK {
		t.Error(ok, s, e)
	}
	if ok, s, e := refine.Check(d, d); !ok || len(s) > 0 || e != api.OK {
		t.Error(ok, s, e)
	}
}

// TestMemory checks general rule 5.
func TestMemory(t *testing.T) {
	c, d := small(t, "and r0 r1 r2\n"), small(t, "or r0 r1 r2\n")
	given := isa.Copy(c)
	for range 2 {
		ok, s, e := refine.Check(c, d)
		if ok || !slices.Equal(s, []uint64{0, 1, 0}) || e != api.OK {
			t.Fatal(ok, s, e)
		}
		s[1] = 7
		l, _, _ := refine.States(c, d)
		if !slices.Equal(l, []int{1, 2}) {
			t.Fatal(l)
		}
		l[0] = 9
	}
	states := [][]uint64{{9, 9, 9}, {9, 5, 6}}
	refine.Test(c, d, states)
	if !slices.Equal(states[1], []uint64{9, 5, 6}) || !isa.Same(c, given) {
		t.Error("the arguments are changed")
	}
	regs := []int{2, 1}
	refine.State(regs, 4, 3, 77)
	if !slices.Equal(regs, []int{2, 1}) {
		t.Error(regs)
	}
}
