package live_test

import (
	"math"
	"math/rand/v2"
	"slices"
	"testing"

	"saturate/api"
	"saturate/exec"
	"saturate/idset"
	"saturate/isa"
	"saturate/live"
)

// code reads a program.
func code(t *testing.T, s string) api.Code {
	t.Helper()
	c, _, e := isa.Parse(s)
	if e != api.OK {
		t.Fatalf("%s: %d", s, e)
	}
	return c
}

// uses and defines tell what an instruction does with a register.
func uses(i api.Ins, r int) bool {
	return slices.Contains(isa.Uses(i), r)
}

func defines(i api.Ins, r int) bool {
	dst, ok := isa.Def(i)
	return ok && dst == r
}

// isLive reports whether a register is live before the instruction with an index: it looks for the next instruction that uses or defines it.
func isLive(c api.Code, at, r int) bool {
	for _, i := range c.Ins[at:] {
		if uses(i, r) {
			return true
		}
		if defines(i, r) {
			return false
		}
	}
	return slices.Contains(c.Out, r)
}

// liveAt returns the registers that are live before the instruction with an index.
func liveAt(c api.Code, at int) []int {
	var l []int
	for r := range c.Regs {
		if isLive(c, at, r) {
			l = append(l, r)
		}
	}
	return l
}

// isDead reports whether an instruction is dead.
func isDead(c api.Code, at int) bool {
	for r := range c.Regs {
		if defines(c.Ins[at], r) {
			return !isLive(c, at+1, r)
		}
	}
	return true
}

// without returns the program without the instruction with an index.
func without(c api.Code, at int) api.Code {
	c.Ins = slices.Concat(c.Ins[:at], c.Ins[at+1:])
	return c
}

// removed returns the program without dead instructions, of which the last one is removed again and again.
func removed(c api.Code) api.Code {
	for at := len(c.Ins) - 1; at >= 0; at-- {
		if isDead(c, at) {
			return removed(without(c, at))
		}
	}
	return c
}

// random returns a valid program.
func random(r *rand.Rand, regs, most int) api.Code {
	c := api.Code{Width: 4, Regs: regs}
	for range r.IntN(most + 1) {
		op := api.MOp(r.IntN(20))
		i := api.Ins{Op: op}
		if op != api.MNop {
			i.Dst = r.IntN(regs)
		}
		if op == api.MMovi {
			i.Imm = r.Uint64N(16)
		}
		for _, source := range []*int{&i.A, &i.B, &i.C}[:isa.Sources(op)] {
			*source = r.IntN(regs)
		}
		c.Ins = append(c.Ins, i)
	}
	c.Out = r.Perm(regs)[:r.IntN(min(regs, 3)+1)]
	return c
}

// TestRandom checks P50.1 to P50.3 for random programs.
func TestRandom(t *testing.T) {
	for seed := range uint64(2000) {
		r := rand.New(rand.NewPCG(seed, 50))
		c := random(r, 1+r.IntN(8), 9)
		given := isa.Copy(c)
		l := live.After(c)
		if len(l) != len(c.Ins) || !slices.Equal(live.Inputs(c), liveAt(c, 0)) {
			t.Fatalf("%s: %v, %v", isa.Print(c), l, live.Inputs(c))
		}
		for at, set := range l {
			if !slices.Equal(set, liveAt(c, at+1)) || live.Dead(c, at) != isDead(c, at) {
				t.Fatalf("%s: after instruction %d %v, dead %v", isa.Print(c), at, set, live.Dead(c, at))
			}
		}
		if d, e := live.Remove(c); e != api.OK || !isa.Same(d, removed(c)) {
			t.Fatalf("Remove of %s is %s, %d", isa.Print(c), isa.Print(d), e)
		}
		checkWindows(t, c)
		if !isa.Same(c, given) {
			t.Fatal("the argument is changed:", isa.Print(c))
		}
	}
}

// checkWindows checks P50.3 for all windows of a program.
func checkWindows(t *testing.T, c api.Code) {
	t.Helper()
	for from := -1; from <= len(c.Ins)+1; from++ {
		for n := -1; n <= len(c.Ins)+1; n++ {
			w, e := live.Window(c, from, n)
			if from < 0 || n < 0 || from+n > len(c.Ins) {
				if e != api.ErrRange || !isa.Same(w, api.Code{}) {
					t.Fatalf("Window(%d, %d) of %s: %d", from, n, isa.Print(c), e)
				}
				continue
			}
			want := api.Code{Width: c.Width, Regs: c.Regs, Ins: c.Ins[from : from+n]}
			for _, r := range liveAt(c, from+n) {
				if slices.ContainsFunc(want.Ins, func(i api.Ins) bool { return defines(i, r) }) {
					want.Out = append(want.Out, r)
				}
			}
			if e != api.OK || !isa.Same(w, want) {
				t.Fatalf("Window(%d, %d) of %s is %s, %d", from, n, isa.Print(c), isa.Print(w), e)
			}
		}
	}
}

// TestMeaning checks P50.5 by executing random programs.
func TestMeaning(t *testing.T) {
	for seed := range uint64(4000) {
		r := rand.New(rand.NewPCG(seed, 505))
		c := random(r, 1+r.IntN(5), 8)
		d, _ := live.Remove(c)
		for i := range d.Ins {
			if live.Dead(d, i) {
				t.Fatalf("%s has a dead instruction", isa.Print(d))
			}
		}
		inputs := live.Inputs(c)
		var regs, others []uint64
		for reg := range c.Regs {
			regs, others = append(regs, r.Uint64N(16)), append(others, r.Uint64N(16))
			if idset.Has(inputs, reg) {
				others[reg] = regs[reg]
			}
		}
		want, e := exec.Outs(c, regs)
		if e != api.OK {
			continue
		}
		if l, e := exec.Outs(d, regs); e != api.OK || !slices.Equal(l, want) {
			t.Fatalf("Remove changes %s: %v, %d, not %v", isa.Print(c), l, e, want)
		}
		if l, e := exec.Outs(c, others); e == api.OK && !slices.Equal(l, want) {
			t.Fatalf("%s depends on more than its inputs %v", isa.Print(c), inputs)
		}
	}
}

// TestExample checks the example of chapter 50.
func TestExample(t *testing.T) {
	c := code(t, "width 8 regs 1\nmovi r0 1\nmovi r0 2\nout r0\n")
	if !live.Dead(c, 0) || live.Dead(c, 1) || len(live.Inputs(c)) != 0 {
		t.Error(live.After(c), live.Inputs(c))
	}
}

// TestInputs checks Inputs and Inputs2 of P50.1.
func TestInputs(t *testing.T) {
	invalid := code(t, "width 8 regs 8\nadd r0 r1 r2\nout r0\n")
	invalid.Width = 0
	empty := code(t, "width 8 regs 8\nout r7 r0 r3\n")
	add := code(t, "width 8 regs 3\nadd r0 r1 r2\nout r0\n")
	for i, c := range []struct {
		c, d api.Code
		want []int
	}{
		{empty, empty, []int{0, 3, 7}}, {add, add, []int{1, 2}}, {add, empty, []int{0, 1, 2, 3, 7}}, {empty, add, []int{0, 1, 2, 3, 7}}, {add, invalid, []int{1, 2}}, {invalid, empty, []int{0, 3, 7}}, {invalid, invalid, nil}, {api.Code{}, add, []int{1, 2}},
	} {
		if l := live.Inputs2(c.c, c.d); !slices.Equal(l, c.want) {
			t.Errorf("case %d: %v", i, l)
		}
	}
	if l := live.Inputs(empty); !slices.Equal(l, []int{0, 3, 7}) || len(live.After(empty)) != 0 {
		t.Error("no instructions:", l)
	}
}

// invalidCodes returns programs that are not valid, by what isa.Check returns for them.
func invalidCodes() map[api.Errno][]api.Code {
	not := []api.Ins{{Op: api.MNot}}
	return map[api.Errno][]api.Code{
		api.ErrWidth: {{}, {Width: 65, Regs: 1, Ins: not}, {Width: -1, Regs: 1, Ins: not}},
		api.ErrReg:   {{Width: 8, Ins: not}, {Width: 8, Regs: 9, Ins: not}, {Width: 8, Regs: math.MaxInt, Ins: not}, {Width: 8, Regs: 1, Ins: []api.Ins{{Op: api.MNot, A: 1}}}, {Width: 8, Regs: 1, Ins: []api.Ins{{Op: api.MNot, Dst: -1}}}, {Width: 8, Regs: 2, Ins: not, Out: []int{2}}, {Width: 8, Regs: 2, Ins: not, Out: []int{-1}}, {Width: 8, Regs: 1, Ins: []api.Ins{{Op: api.MAdd, Dst: 99}}}},
		api.ErrLong:  {{Width: 8, Regs: 1, Ins: make([]api.Ins, 257)}},
		api.ErrOp:    {{Width: 8, Regs: 1, Ins: []api.Ins{{Op: 20}}}, {Width: 8, Regs: 1, Ins: []api.Ins{{Op: -1}}}},
		api.ErrRange: {{Width: 8, Regs: 1, Ins: []api.Ins{{Op: api.MMovi, Imm: 256}}}},
		api.ErrForm:  {{Width: 8, Regs: 1, Ins: []api.Ins{{Op: api.MNop, Imm: 1}}}},
		api.ErrDup:   {{Width: 8, Regs: 1, Ins: not, Out: []int{0, 0}}},
	}
}

// TestInvalid checks P50.1 to P50.4 for programs that are not valid.
func TestInvalid(t *testing.T) {
	valid := code(t, "width 4 regs 2\nnot r0 r1\nout r0\n")
	for want, l := range invalidCodes() {
		for i, c := range l {
			if len(live.After(c)) != 0 || len(live.Inputs(c)) != 0 || live.Dead(c, 0) {
				t.Errorf("error %d, case %d: %v, %v", want, i, live.After(c), live.Inputs(c))
			}
			if d, e := live.Remove(c); e != want || !isa.Same(d, api.Code{}) {
				t.Errorf("error %d, case %d: Remove is %v, %d", want, i, d, e)
			}
			for _, from := range []int{0, -1, 99} {
				if d, e := live.Window(c, from, 0); e != want || !isa.Same(d, api.Code{}) {
					t.Errorf("error %d, case %d: Window is %v, %d", want, i, d, e)
				}
				if d, e := live.Replace(c, from, 0, api.Code{Width: -1}); e != want || !isa.Same(d, api.Code{}) {
					t.Errorf("error %d, case %d: Replace is %v, %d", want, i, d, e)
				}
			}
			if d, e := live.Replace(valid, 0, 1, c); e != want || !isa.Same(d, api.Code{}) {
				t.Errorf("error %d, case %d: Replace by it is %v, %d", want, i, d, e)
			}
			if d, e := live.Replace(valid, 1, 1, c); e != api.ErrRange || !isa.Same(d, api.Code{}) {
				t.Errorf("error %d, case %d: Replace by it beyond the end is %v, %d", want, i, d, e)
			}
		}
	}
	for _, i := range []int{-1, 1, math.MinInt, math.MaxInt} {
		if live.Dead(valid, i) {
			t.Error("Dead:", i)
		}
	}
	for _, c := range [][2]int{{-1, 1}, {0, -1}, {2, 0}, {2, -1}, {0, 2}, {1, 1}, {1, math.MaxInt}, {math.MaxInt, 1}, {math.MaxInt, math.MaxInt}, {math.MinInt, math.MaxInt}, {math.MinInt, math.MinInt}, {-1, 0}, {math.MaxInt, math.MinInt}} {
		if d, e := live.Window(valid, c[0], c[1]); e != api.ErrRange || !isa.Same(d, api.Code{}) {
			t.Errorf("Window(%d, %d) is %v, %d", c[0], c[1], d, e)
		}
		if d, e := live.Replace(valid, c[0], c[1], valid); e != api.ErrRange || !isa.Same(d, api.Code{}) {
			t.Errorf("Replace(%d, %d) is %v, %d", c[0], c[1], d, e)
		}
	}
}

// TestReplace checks P50.4 for all windows of a program.
func TestReplace(t *testing.T) {
	c := code(t, "width 8 regs 3\nadd r0 r1 r2\nmovi r1 7\nmul r2 r0 r0\nout r2 r1\n")
	for _, w := range []api.Code{{Width: 8, Regs: 3}, code(t, "width 8 regs 3\nnot r1 r2\nout r1\n"), code(t, "width 8 regs 3\nnop\nnop\nneg r0 r2\nnop\nout\n")} {
		for from := range 4 {
			for n := range 4 - from {
				want := api.Code{Width: 8, Regs: 3, Out: []int{2, 1}}
				for at, i := range c.Ins {
					if at == from {
						want.Ins = append(want.Ins, w.Ins...)
					}
					if at < from || at >= from+n {
						want.Ins = append(want.Ins, i)
					}
				}
				if from == 3 {
					want.Ins = append(want.Ins, w.Ins...)
				}
				if d, e := live.Replace(c, from, n, w); e != api.OK || !isa.Same(d, want) {
					t.Errorf("Replace(%d, %d) is %s, %d", from, n, isa.Print(d), e)
				}
			}
		}
	}
	full := api.Code{Width: 8, Regs: 3, Ins: make([]api.Ins, 254)}
	for i, o := range []struct {
		c    api.Code
		n    int
		w    api.Code
		want api.Errno
	}{
		{c, 1, api.Code{Width: 7, Regs: 3}, api.ErrWidth}, {c, 1, api.Code{Width: 8, Regs: 2}, api.ErrWidth}, {c, 0, api.Code{Width: 8, Regs: 4}, api.ErrWidth}, {full, 254, c, api.OK}, {full, 1, c, api.OK}, {full, 0, c, api.ErrLong}, {c, 1, full, api.OK}, {c, 0, full, api.ErrLong}, {full, 0, full, api.ErrLong}, {full, 0, api.Code{Width: 4, Regs: 3, Ins: full.Ins}, api.ErrWidth}, {full, 254, full, api.OK},
	} {
		if d, e := live.Replace(o.c, 0, o.n, o.w); e != o.want || e == api.OK && len(d.Ins) != len(o.c.Ins)-o.n+len(o.w.Ins) || e != api.OK && !isa.Same(d, api.Code{}) {
			t.Errorf("case %d: %d instructions, %d, not %d", i, len(d.Ins), e, o.want)
		}
	}
}

// TestMemory checks that results share no memory with arguments and with each other (general rule 5).
func TestMemory(t *testing.T) {
	text := "width 8 regs 3\nadd r0 r1 r2\nnop\nmul r2 r0 r0\nout r2 r1\n"
	c, w := code(t, text), code(t, text)
	d, _ := live.Remove(c)
	e, _ := live.Window(c, 0, 3)
	f, _ := live.Replace(c, 0, 1, w)
	for _, each := range []api.Code{d, e, f} {
		each.Ins[0].A, each.Out[0] = 99, 99
	}
	f, _ = live.Replace(c, 0, 3, w)
	f.Ins[0].A, f.Out[0] = 99, 99
	if isa.Print(c) != text || isa.Print(w) != text {
		t.Error(isa.Print(c), isa.Print(w))
	}
	l := live.After(c)
	l[0][0] = 99
	if k := live.After(c); k[0][0] != 0 || l[1][0] != 0 {
		t.Error(l, k)
	}
}
