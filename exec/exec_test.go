package exec_test

import (
	"math"
	"math/rand/v2"
	"slices"
	"testing"

	"saturate/api"
	"saturate/bits"
	"saturate/exec"
	"saturate/isa"
)

// value returns what an operation computes from the values of its sources, and false if it traps.
func value(op api.MOp, w int, imm uint64, x []uint64) (uint64, bool) {
	binary := map[api.MOp]func(w int, a, b uint64) uint64{
		api.MAnd: bits.And, api.MOr: bits.Or, api.MXor: bits.Xor, api.MAdd: bits.Add, api.MSub: bits.Sub, api.MMul: bits.Mul, api.MDiv: bits.Udiv, api.MRem: bits.Urem,
		api.MShl: bits.Shl, api.MShr: bits.Lshr, api.MSar: bits.Ashr, api.MEq: bits.Eq, api.MUlt: bits.Ult, api.MSlt: bits.Slt,
	}
	switch {
	case op == api.MMovi:
		return bits.Cut(w, imm), true
	case op == api.MMov:
		return x[0], true
	case op == api.MNot:
		return bits.Not(w, x[0]), true
	case op == api.MNeg:
		return bits.Neg(w, x[0]), true
	case op == api.MSel && x[0] != 0:
		return x[1], true
	case op == api.MSel:
		return x[2], true
	case (op == api.MDiv || op == api.MRem) && x[1] == 0:
		return 0, false
	}
	return binary[op](w, x[0], x[1]), true
}

// after returns the state after an instruction, for reduced values, and false if it traps.
func after(w int, i api.Ins, state []uint64) ([]uint64, bool) {
	next := slices.Clone(state)
	if i.Op == api.MNop {
		return next, true
	}
	var x []uint64
	for _, r := range []int{i.A, i.B, i.C}[:isa.Sources(i.Op)] {
		x = append(x, state[r])
	}
	val, ok := value(i.Op, w, i.Imm, x)
	next[i.Dst] = val
	return next, ok
}

// reduced returns n values modulo 2^w.
func reduced(w, n int, regs []uint64) []uint64 {
	state := make([]uint64, n)
	for r := range min(n, len(regs)) {
		state[r] = bits.Cut(w, regs[r])
	}
	return state
}

// someValues has values for many widths.
var someValues = []uint64{0, 1, 2, 3, 5, 7, 8, 63, 64, 127, 128, 255, 1 << 31, 1<<32 - 1, 1 << 63, math.MaxUint64, math.MaxUint64 - 1}

// TestStep checks P49.1 for all operations and many values.
func TestStep(t *testing.T) {
	for _, w := range []int{1, 2, 3, 4, 8, 31, 32, 63, 64} {
		r := rand.New(rand.NewPCG(uint64(w), 49))
		for op := api.MNop; op <= api.MSel; op++ {
			for _, a := range someValues {
				for _, b := range someValues {
					regs := []uint64{a, b, r.Uint64(), r.Uint64()}
					i := api.Ins{Op: op, Dst: r.IntN(4), A: 0, B: 1, C: 2, Imm: a}
					if r.IntN(3) == 0 {
						i.A, i.B, i.C = r.IntN(4), r.IntN(4), r.IntN(4)
					}
					want, ok := after(w, i, reduced(w, 4, regs))
					s, e := exec.Step(w, i, regs)
					if ok && (e != api.OK || !slices.Equal(s, want)) || !ok && (e != api.ErrTrap || len(s) != 0) {
						t.Fatalf("width %d: %v on %v is %v, %d, not %v, %v", w, i, regs, s, e, want, ok)
					}
				}
			}
		}
	}
}

// TestStepRegisters checks P49.1 for widths and registers that are out of range, and for fields that are not used.
func TestStepRegisters(t *testing.T) {
	nine := []uint64{259, 1, 2, 3, 4, 5, 6, 7, 8}
	for i, c := range []struct {
		w    int
		ins  api.Ins
		regs []uint64
		want []uint64
		e    api.Errno
	}{
		{8, api.Ins{Op: api.MMov, Dst: 7, A: 0}, nine, []uint64{3, 1, 2, 3, 4, 5, 6, 3}, api.OK}, {8, api.Ins{Op: api.MMov, Dst: 8}, nine, nil, api.ErrReg}, {8, api.Ins{Op: api.MMov, A: 8}, nine, nil, api.ErrReg}, {8, api.Ins{}, nine, []uint64{3, 1, 2, 3, 4, 5, 6, 7}, api.OK},
		{0, api.Ins{Op: api.MNot}, []uint64{3, 7}, []uint64{0, 1}, api.OK}, {-5, api.Ins{}, []uint64{2}, []uint64{0}, api.OK}, {math.MinInt, api.Ins{Op: api.MMovi, Imm: 6}, []uint64{2}, []uint64{0}, api.OK}, {65, api.Ins{Op: api.MNot}, []uint64{1}, []uint64{math.MaxUint64 - 1}, api.OK}, {math.MaxInt, api.Ins{Op: api.MMovi, Imm: math.MaxUint64}, []uint64{1}, []uint64{math.MaxUint64}, api.OK}, {4, api.Ins{Op: api.MMovi, Imm: 23}, []uint64{1}, []uint64{7}, api.OK},
		{8, api.Ins{}, nil, nil, api.OK}, {8, api.Ins{Op: api.MMovi}, nil, nil, api.ErrReg}, {8, api.Ins{Op: api.MNop, Dst: -9, A: 99, B: -1, C: 7, Imm: 5}, []uint64{1}, []uint64{1}, api.OK}, {8, api.Ins{Op: api.MMovi, A: 99, B: -1, C: 7, Imm: 5}, []uint64{1}, []uint64{5}, api.OK}, {8, api.Ins{Op: api.MNeg, A: 0, B: 99, C: -1, Imm: 1 << 60}, []uint64{1}, []uint64{255}, api.OK}, {8, api.Ins{Op: api.MAdd, C: 99}, []uint64{1}, []uint64{2}, api.OK},
		{8, api.Ins{Op: api.MAdd, B: 1}, []uint64{1}, nil, api.ErrReg}, {8, api.Ins{Op: api.MAdd, A: -1}, []uint64{1}, nil, api.ErrReg}, {8, api.Ins{Op: api.MSel, C: 1}, []uint64{1}, nil, api.ErrReg}, {8, api.Ins{Op: api.MMov, Dst: -1}, []uint64{1}, nil, api.ErrReg}, {8, api.Ins{Op: api.MMov, Dst: math.MaxInt, A: math.MinInt}, []uint64{1}, nil, api.ErrReg},
		{8, api.Ins{Op: api.MDiv, B: 1, Dst: 2}, []uint64{1, 0}, nil, api.ErrReg}, {8, api.Ins{Op: api.MRem, B: 1}, []uint64{1, 256}, nil, api.ErrTrap}, {9, api.Ins{Op: api.MRem, B: 1}, []uint64{300, 256}, []uint64{44, 256}, api.OK}, {8, api.Ins{Op: api.MDiv}, []uint64{0}, nil, api.ErrTrap}, {8, api.Ins{Op: api.MSub, B: 1}, []uint64{0, 0}, []uint64{0, 0}, api.OK},
		{8, api.Ins{Op: 20, Dst: -1}, nil, nil, api.ErrOp}, {8, api.Ins{Op: -1}, []uint64{1}, nil, api.ErrOp}, {8, api.Ins{Op: math.MaxInt, A: 99}, []uint64{1}, nil, api.ErrOp}, {8, api.Ins{Op: 256 + api.MAdd}, []uint64{1}, nil, api.ErrOp},
	} {
		if s, e := exec.Step(c.w, c.ins, c.regs); !slices.Equal(s, c.want) || e != c.e {
			t.Errorf("case %d: %v, %d, not %v, %d", i, s, e, c.want, c.e)
		}
	}
	regs := []uint64{300, 5}
	s, _ := exec.Step(8, api.Ins{Op: api.MNop}, regs)
	if s[1] = 9; regs[0] != 300 || regs[1] != 5 {
		t.Error("the argument is changed:", regs)
	}
}

// random returns a valid program.
func random(r *rand.Rand, w, regs int) api.Code {
	c := api.Code{Width: w, Regs: regs}
	for range r.IntN(7) {
		op := api.MOp(r.IntN(20))
		i := api.Ins{Op: op}
		if op != api.MNop {
			i.Dst = r.IntN(regs)
		}
		if op == api.MMovi {
			i.Imm = bits.Cut(w, r.Uint64())
		}
		for _, source := range []*int{&i.A, &i.B, &i.C}[:isa.Sources(op)] {
			*source = r.IntN(regs)
		}
		c.Ins = append(c.Ins, i)
	}
	c.Out = r.Perm(regs)[:r.IntN(regs+1)]
	return c
}

// TestRun checks P49.2 and P49.4 for random programs and states.
func TestRun(t *testing.T) {
	traps := 0
	for seed := range uint64(3000) {
		r := rand.New(rand.NewPCG(seed, 492))
		c := random(r, 1+r.IntN(64), 1+r.IntN(8))
		var regs []uint64
		for range r.IntN(10) {
			regs = append(regs, someValues[r.IntN(len(someValues))])
		}
		given := slices.Clone(regs)
		states := [][]uint64{reduced(c.Width, c.Regs, regs)}
		trap := -1
		for at, i := range c.Ins {
			next, ok := after(c.Width, i, states[at])
			if !ok {
				trap = at
				traps++
				break
			}
			states = append(states, next)
		}
		checkRun(t, c, regs, states, trap)
		if !slices.Equal(regs, given) {
			t.Fatalf("the argument is changed: %v", regs)
		}
	}
	if traps < 100 {
		t.Error("too few programs trap:", traps)
	}
}

// checkRun checks the results for a valid program: the states that it has, and the index of the instruction that traps.
func checkRun(t *testing.T, c api.Code, regs []uint64, states [][]uint64, trap int) {
	t.Helper()
	wantAt, want := 0, api.OK
	final := states[len(states)-1]
	var wantOuts []uint64
	if trap >= 0 {
		wantAt, want, final = trap, api.ErrTrap, nil
	} else {
		for _, r := range c.Out {
			wantOuts = append(wantOuts, final[r])
		}
	}
	if s, at, e := exec.Run(c, regs); !slices.Equal(s, final) || at != wantAt || e != want {
		t.Fatalf("Run of %v on %v is %v, %d, %d, not %v, %d, %d", c, regs, s, at, e, final, wantAt, want)
	}
	if l, e := exec.Outs(c, regs); !slices.Equal(l, wantOuts) || e != want {
		t.Fatalf("Outs of %v on %v is %v, %d, not %v, %d", c, regs, l, e, wantOuts, want)
	}
	l, e := exec.Trace(c, regs)
	if !slices.EqualFunc(l, states, slices.Equal[[]uint64]) || e != want {
		t.Fatalf("Trace of %v on %v is %v, %d, not %v, %d", c, regs, l, e, states, want)
	}
	for _, s := range l {
		if slices.Max(s) > bits.Mask(c.Width) {
			t.Fatalf("a value of %v is too great", s)
		}
		s[0] = 99 // the states share no memory, or else the next ones are wrong
	}
	if len(l) > 1 && (l[1][0] != 99 || &l[0][0] == &l[1][0]) {
		t.Fatal("states share memory")
	}
}

// TestConcat checks P49.4: a program that is a concatenation runs its second part on the final state of the first one.
func TestConcat(t *testing.T) {
	for seed := range uint64(1000) {
		r := rand.New(rand.NewPCG(seed, 494))
		c, d := random(r, 4, 3), random(r, 4, 3)
		regs := []uint64{r.Uint64(), r.Uint64(), r.Uint64()}
		both := api.Code{Width: 4, Regs: 3, Ins: slices.Concat(c.Ins, d.Ins), Out: d.Out}
		s, at, e := exec.Run(c, regs)
		if e == api.OK {
			s, at, e = exec.Run(d, s)
			if e != api.OK {
				at += len(c.Ins)
			}
		}
		if got, gotAt, gotE := exec.Run(both, regs); !slices.Equal(got, s) || gotAt != at || gotE != e {
			t.Fatalf("%v on %v is %v, %d, %d, not %v, %d, %d", both, regs, got, gotAt, gotE, s, at, e)
		}
	}
}

// TestErrors checks the errors of P49.2 for programs that are not valid.
func TestErrors(t *testing.T) {
	trap := api.Ins{Op: api.MDiv}
	for i, c := range []struct {
		c  api.Code
		at int
		e  api.Errno
	}{
		{api.Code{}, -1, api.ErrWidth}, {api.Code{Width: 65, Regs: 1}, -1, api.ErrWidth}, {api.Code{Width: 8}, -1, api.ErrReg}, {api.Code{Width: 8, Regs: 9}, -1, api.ErrReg}, {api.Code{Width: 8, Regs: 1, Ins: make([]api.Ins, 257)}, -1, api.ErrLong}, {api.Code{Width: 8, Regs: 1, Ins: []api.Ins{trap, {Op: 20}}}, 1, api.ErrOp}, {api.Code{Width: 8, Regs: 1, Ins: []api.Ins{trap, trap, {Op: api.MMov, A: 1}}}, 2, api.ErrReg}, {api.Code{Width: 8, Regs: 1, Ins: []api.Ins{{Op: api.MMovi, Imm: 256}}}, 0, api.ErrRange}, {api.Code{Width: 8, Regs: 1, Ins: []api.Ins{trap, {Op: api.MNop, A: 1}}}, 1, api.ErrForm}, {api.Code{Width: 8, Regs: 1, Ins: []api.Ins{trap}, Out: []int{1}}, -1, api.ErrReg}, {api.Code{Width: 8, Regs: 1, Ins: []api.Ins{trap}, Out: []int{0, 0}}, -1, api.ErrDup},
	} {
		if s, at, e := exec.Run(c.c, []uint64{1}); len(s) != 0 || at != c.at || e != c.e {
			t.Errorf("case %d: Run is %v, %d, %d", i, s, at, e)
		}
		if l, e := exec.Outs(c.c, []uint64{1}); len(l) != 0 || e != c.e {
			t.Errorf("case %d: Outs is %v, %d", i, l, e)
		}
		if l, e := exec.Trace(c.c, nil); len(l) != 0 || e != c.e {
			t.Errorf("case %d: Trace is %v, %d", i, l, e)
		}
	}
}

// TestExamples checks the examples of chapter 49.
func TestExamples(t *testing.T) {
	c := api.Code{Width: 8, Regs: 2, Ins: []api.Ins{{Op: api.MAdd, B: 1}}, Out: []int{0}}
	if s, at, e := exec.Run(c, []uint64{200, 100}); !slices.Equal(s, []uint64{44, 100}) || at != 0 || e != api.OK {
		t.Error(s, at, e)
	}
	c.Ins[0].Op = api.MDiv
	if s, at, e := exec.Run(c, []uint64{5, 0}); len(s) != 0 || at != 0 || e != api.ErrTrap {
		t.Error(s, at, e)
	}
	if l, e := exec.Trace(c, []uint64{5, 0}); len(l) != 1 || !slices.Equal(l[0], []uint64{5, 0}) || e != api.ErrTrap {
		t.Error(l, e)
	}
}

// TestEqual checks P49.3.
func TestEqual(t *testing.T) {
	code := func(w int, out []int, ins ...api.Ins) api.Code {
		return api.Code{Width: w, Regs: 2, Ins: ins, Out: out}
	}
	zero, trap, not := api.Ins{Op: api.MMovi}, api.Ins{Op: api.MDiv, B: 1}, api.Ins{Op: api.MNot}
	for i, c := range []struct {
		c, d api.Code
		want bool
	}{
		{code(8, []int{0}, zero), code(8, []int{0}, api.Ins{Op: api.MXor}), true}, {code(8, []int{0}, not), code(8, []int{1}, not), false}, {code(8, []int{0}, zero), code(8, []int{0, 1}, zero), false}, {code(8, []int{0, 1}), code(8, []int{1, 0}), false}, {code(8, nil, zero), code(4, nil, not), true},
		{code(8, []int{0}, zero), code(4, []int{0}, zero), true}, {code(8, []int{0}, not), code(4, []int{0}, not), false}, {code(8, []int{0}, zero, trap), code(8, []int{1}, trap), true}, {code(8, nil, trap), code(8, nil), false}, {code(8, nil), code(8, nil, trap), false},
		{code(0, nil), code(0, []int{0}, trap), true}, {code(0, nil), code(8, nil), false}, {code(0, nil), code(8, []int{2}), false}, {code(8, []int{2}), code(8, []int{-1}, trap), true}, {code(8, nil, trap), code(8, []int{2}, trap), false}, {code(8, nil), code(0, nil), false},
	} {
		if exec.Equal(c.c, c.d, []uint64{5}) != c.want {
			t.Errorf("case %d", i)
		}
	}
	c, d := code(8, []int{0}, api.Ins{Op: api.MMul, B: 1}), code(8, []int{0}, api.Ins{Op: api.MShl, B: 1})
	if !exec.Equal(c, d, []uint64{0, 7}) || exec.Equal(c, d, []uint64{1, 7}) || !exec.Equal(c, d, []uint64{128, 258}) {
		t.Error("the state is not used")
	}
}
