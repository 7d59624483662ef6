package isa_test

import (
	"math"
	"slices"
	"testing"

	"saturate/api"
	"saturate/bits"
	"saturate/isa"
)

// operation is what P48.2 says of an operation.
type operation struct {
	name    string
	sources int
	price   int64
}

// operations returns the operations by their numbers.
func operations() []operation {
	return []operation{
		{"nop", 0, 0}, {"movi", 0, 1}, {"mov", 1, 1}, {"not", 1, 1}, {"neg", 1, 1}, {"and", 2, 1}, {"or", 2, 1}, {"xor", 2, 1}, {"add", 2, 1}, {"sub", 2, 1},
		{"mul", 2, 3}, {"div", 2, 12}, {"rem", 2, 12}, {"shl", 2, 1}, {"shr", 2, 1}, {"sar", 2, 1}, {"eq", 2, 1}, {"ult", 2, 1}, {"slt", 2, 1}, {"sel", 3, 1},
	}
}

// unknown has numbers that are no operations.
func unknown() []api.MOp {
	return []api.MOp{20, 21, -1, 255, 256, 256 + api.MAdd, math.MaxInt, math.MinInt}
}

// instruction returns a valid instruction whose registers are different, if the operation uses them.
func instruction(op api.MOp, width int) api.Ins {
	i := api.Ins{Op: op}
	if op != api.MNop {
		i.Dst = 3
	}
	if op == api.MMovi {
		i.Imm = bits.Mask(width)
	}
	for k, source := range []*int{&i.A, &i.B, &i.C}[:operations()[op].sources] {
		*source = k
	}
	return i
}

// TestOperations checks P48.2 for all operations.
func TestOperations(t *testing.T) {
	for n, want := range operations() {
		op := api.MOp(n)
		found, ok := isa.Of(want.name)
		if isa.Name(op) != want.name || found != op || !ok {
			t.Errorf("operation %d is %q, and Of(%q) is %d, %v", n, isa.Name(op), want.name, found, ok)
		}
		if isa.Sources(op) != want.sources || isa.Price(op) != want.price || isa.Traps(op) != (op == api.MDiv || op == api.MRem) {
			t.Errorf("%s: %d, %d, %v", want.name, isa.Sources(op), isa.Price(op), isa.Traps(op))
		}
	}
	for _, op := range unknown() {
		if isa.Name(op) != "" || isa.Sources(op) != -1 || isa.Price(op) != 0 || isa.Traps(op) {
			t.Errorf("operation %d: %q, %d, %d, %v", op, isa.Name(op), isa.Sources(op), isa.Price(op), isa.Traps(op))
		}
	}
	for _, name := range []string{"", "Add", "add ", "ad", "addi", "out", "width", "udiv", "lshr", "ite", "var"} {
		if op, ok := isa.Of(name); op != 0 || ok {
			t.Errorf("Of(%q) is %d, %v", name, op, ok)
		}
	}
}

// TestUsesDef checks P48.2 for Uses and Def. They do not examine the registers.
func TestUsesDef(t *testing.T) {
	for _, i := range []api.Ins{{Dst: 7, A: 1, B: 2, C: 3, Imm: 9}, {Dst: -1, A: 5, B: 5, C: 5}, {A: math.MaxInt, B: math.MinInt, Dst: 99}, {}} {
		for n, o := range operations() {
			i.Op = api.MOp(n)
			if l := isa.Uses(i); !slices.Equal(l, []int{i.A, i.B, i.C}[:o.sources]) {
				t.Errorf("Uses of %v is %v", i, l)
			}
			want := i.Dst
			if n == 0 {
				want = 0
			}
			if r, ok := isa.Def(i); r != want || ok != (n > 0) {
				t.Errorf("Def of %v is %d, %v", i, r, ok)
			}
		}
		for _, op := range unknown() {
			i.Op = op
			r, ok := isa.Def(i)
			if l := isa.Uses(i); len(l) != 0 || r != 0 || ok {
				t.Errorf("Uses and Def of %v are %v, %d, %v", i, l, r, ok)
			}
		}
	}
	l := isa.Uses(api.Ins{Op: api.MNot, A: 1, B: 2})
	if l = append(l, 9); l[0] != 1 || len(l) != 2 {
		t.Error("the result of Uses:", l)
	}
}

// all returns a valid program with all operations.
func all(width int) api.Code {
	c := api.Code{Width: width, Regs: 4, Out: []int{3, 0, 2}}
	for n := range operations() {
		c.Ins = append(c.Ins, instruction(api.MOp(n), width))
	}
	return c
}

// TestCost checks P48.2 for Cost, for programs that are not valid too.
func TestCost(t *testing.T) {
	c := all(8)
	if isa.Cost(c) != 43 || isa.Cost(api.Code{}) != 0 {
		t.Error(isa.Cost(c), isa.Cost(api.Code{}))
	}
	c.Ins = append(c.Ins, api.Ins{Op: 20}, api.Ins{Op: -1, Dst: 99}, api.Ins{Op: api.MMul, Dst: -4})
	if isa.Cost(c) != 46 {
		t.Error(isa.Cost(c))
	}
	c.Ins = slices.Repeat([]api.Ins{{Op: api.MDiv}}, 1000)
	if isa.Cost(c) != 12000 {
		t.Error(isa.Cost(c))
	}
}

// wantCheck fails the test if Check does not return this.
func wantCheck(t *testing.T, what string, c api.Code, at int, e api.Errno) {
	t.Helper()
	if gotAt, got := isa.Check(c); gotAt != at || got != e {
		t.Errorf("%s: Check returns %d, %d, not %d, %d", what, gotAt, got, at, e)
	}
}

// TestCheck checks P48.1 for valid programs, at the limits too.
func TestCheck(t *testing.T) {
	for w := 1; w <= 64; w++ {
		wantCheck(t, "all operations", all(w), 0, api.OK)
	}
	for regs := 1; regs <= 8; regs++ {
		wantCheck(t, "no instructions", api.Code{Width: 8, Regs: regs}, 0, api.OK)
		last := regs - 1
		c := api.Code{Width: 1, Regs: regs, Ins: []api.Ins{{Op: api.MSel, Dst: last, A: last, B: last, C: last}}, Out: []int{last}}
		wantCheck(t, "the last register", c, 0, api.OK)
	}
	c := api.Code{Width: 64, Regs: 8, Ins: slices.Repeat([]api.Ins{{Op: api.MMovi, Imm: math.MaxUint64}}, 256), Out: []int{7, 6, 5, 4, 3, 2, 1, 0}}
	wantCheck(t, "the greatest program", c, 0, api.OK)
	before := isa.Copy(c)
	wantCheck(t, "the greatest program again", c, 0, api.OK)
	if !isa.Same(c, before) {
		t.Error("Check changes its argument")
	}
}

// TestCheckProgram checks the errors of P48.1 that have no index.
func TestCheckProgram(t *testing.T) {
	bad := api.Ins{Op: 20}
	for _, w := range []int{0, 65, -1, math.MaxInt, math.MinInt} {
		wantCheck(t, "a width", api.Code{Width: w, Regs: 99, Ins: []api.Ins{bad}, Out: []int{9}}, -1, api.ErrWidth)
	}
	for _, regs := range []int{0, 9, -1, math.MaxInt, math.MinInt} {
		wantCheck(t, "registers", api.Code{Width: 8, Regs: regs, Ins: slices.Repeat([]api.Ins{bad}, 257), Out: []int{9}}, -1, api.ErrReg)
	}
	wantCheck(t, "long", api.Code{Width: 8, Regs: 1, Ins: slices.Repeat([]api.Ins{bad}, 257), Out: []int{9}}, -1, api.ErrLong)
	wantCheck(t, "an instruction before Out", api.Code{Width: 8, Regs: 1, Ins: []api.Ins{bad}, Out: []int{9, 0, 0}}, 0, api.ErrOp)
	for _, out := range [][]int{{4}, {-1}, {0, 0, 4}, {1, 1, -1}, {math.MaxInt}, {3, math.MinInt, 3}} {
		wantCheck(t, "Out", api.Code{Width: 8, Regs: 4, Out: out}, -1, api.ErrReg)
	}
	for _, out := range [][]int{{0, 0}, {0, 1, 2, 3, 0}, {1, 2, 2}, {3, 3, 3}} {
		wantCheck(t, "Out", api.Code{Width: 8, Regs: 4, Out: out}, -1, api.ErrDup)
	}
}

// TestCheckInstruction checks the errors of P48.1 that instructions have, one at a time.
func TestCheckInstruction(t *testing.T) {
	with := func(width int, i api.Ins) api.Code {
		return api.Code{Width: width, Regs: 4, Ins: []api.Ins{instruction(api.MAdd, width), {}, i, {Op: 20}}, Out: []int{9}}
	}
	for _, op := range unknown() {
		wantCheck(t, "an unknown operation", with(8, api.Ins{Op: op, Dst: 9, A: -1, Imm: 1}), 2, api.ErrOp)
	}
	for n, o := range operations() {
		fields := func(i *api.Ins) []*int { return []*int{&i.Dst, &i.A, &i.B, &i.C} }
		for k := range 4 {
			used := k == 0 && n > 0 || k > 0 && k <= o.sources
			for _, r := range []int{4, -1, math.MaxInt, math.MinInt} {
				i := instruction(api.MOp(n), 8)
				*fields(&i)[k] = r
				if used {
					wantCheck(t, o.name+" with a register", with(8, i), 2, api.ErrReg)
				} else {
					wantCheck(t, o.name+" with a surplus register", with(8, i), 2, api.ErrForm)
				}
			}
			i := instruction(api.MOp(n), 8)
			*fields(&i)[k] = 1
			if used {
				wantCheck(t, o.name+" with another register", with(8, i), 3, api.ErrOp)
			} else {
				wantCheck(t, o.name+" with a surplus register", with(8, i), 2, api.ErrForm)
			}
		}
		for _, imm := range []uint64{1, 255, 256, math.MaxUint64} {
			i := instruction(api.MOp(n), 8)
			i.Imm = imm
			switch {
			case n != 1:
				wantCheck(t, o.name+" with a surplus Imm", with(8, i), 2, api.ErrForm)
			case imm < 256:
				wantCheck(t, "another Imm", with(8, i), 3, api.ErrOp)
			}
		}
	}
	for _, w := range []int{1, 7, 8, 63} {
		for _, imm := range []uint64{1 << w, 1<<w + 1, math.MaxUint64} {
			wantCheck(t, "an Imm", with(w, api.Ins{Op: api.MMovi, Imm: imm}), 2, api.ErrRange)
		}
	}
}

// TestCheckOrder checks which of several errors of an instruction P48.1 wants.
func TestCheckOrder(t *testing.T) {
	with := func(l ...api.Ins) api.Code { return api.Code{Width: 4, Regs: 2, Ins: l, Out: []int{0, 0}} }
	wantCheck(t, "register and Imm", with(api.Ins{Op: api.MMovi, Dst: 2, A: 1, Imm: 16}), 0, api.ErrReg)
	wantCheck(t, "Imm and form", with(api.Ins{Op: api.MMovi, Dst: 1, A: 1, Imm: 16}), 0, api.ErrRange)
	wantCheck(t, "register and form", with(api.Ins{Op: api.MNot, A: 2, B: 1}), 0, api.ErrReg)
	wantCheck(t, "source and form", with(api.Ins{Op: api.MAdd, B: -1, C: 5, Imm: 4}), 0, api.ErrReg)
	wantCheck(t, "in order", with(api.Ins{Op: api.MMov, Imm: 1}, api.Ins{Op: 99}, api.Ins{Op: api.MMov, A: 2}), 0, api.ErrForm)
	wantCheck(t, "in order", with(api.Ins{}, api.Ins{Op: api.MMovi, Imm: 16}, api.Ins{Op: 99}, api.Ins{Op: api.MMov, A: 2}), 1, api.ErrRange)
	wantCheck(t, "Out", with(api.Ins{}, api.Ins{}), -1, api.ErrDup)
	// The Width 64 has no Imm that is too great.
	wantCheck(t, "Width 64", api.Code{Width: 64, Regs: 1, Ins: []api.Ins{{Op: api.MMovi, Imm: math.MaxUint64}}}, 0, api.OK)
}

// TestSame checks P48.4.
func TestSame(t *testing.T) {
	if !isa.Same(api.Code{}, api.Code{Ins: []api.Ins{}, Out: []int{}}) || !isa.Same(all(8), all(8)) {
		t.Error("equal programs")
	}
	for k, change := range []func(c *api.Code){
		func(c *api.Code) { c.Width++ }, func(c *api.Code) { c.Regs-- }, func(c *api.Code) { c.Ins = c.Ins[:19] }, func(c *api.Code) { c.Ins = append(c.Ins, api.Ins{}) }, func(c *api.Code) { c.Ins = nil }, func(c *api.Code) { c.Ins[0], c.Ins[1] = c.Ins[1], c.Ins[0] },
		func(c *api.Code) { c.Ins[5].Op++ }, func(c *api.Code) { c.Ins[5].Dst++ }, func(c *api.Code) { c.Ins[5].A++ }, func(c *api.Code) { c.Ins[5].B++ }, func(c *api.Code) { c.Ins[5].C++ }, func(c *api.Code) { c.Ins[19].Imm++ },
		func(c *api.Code) { c.Out = c.Out[:2] }, func(c *api.Code) { c.Out = append(c.Out, 1) }, func(c *api.Code) { c.Out[0], c.Out[1] = c.Out[1], c.Out[0] }, func(c *api.Code) { c.Out = nil }, func(c *api.Code) { c.Out[2] = -9 },
	} {
		c, changed := all(8), all(8)
		change(&changed)
		if isa.Same(c, changed) || isa.Same(changed, c) || !isa.Same(changed, changed) {
			t.Errorf("change %d is not seen", k)
		}
		if d := isa.Copy(changed); !isa.Same(d, changed) {
			t.Errorf("change %d is not copied", k)
		}
	}
}

// TestCopy checks that Copy has its own memory (P48.4).
func TestCopy(t *testing.T) {
	c := all(8)
	c.Ins, c.Out = append(make([]api.Ins, 0, 50), c.Ins...), append(make([]int, 0, 50), c.Out...)
	d := isa.Copy(c)
	for i := range d.Ins {
		d.Ins[i].Dst = 99
	}
	for i := range d.Out {
		d.Out[i] = 99
	}
	_, _ = append(d.Ins, api.Ins{Imm: 5}), append(d.Out, 5)
	if !isa.Same(c, all(8)) || c.Ins[:21][20].Imm == 5 || c.Out[:4][3] == 5 {
		t.Error("Copy shares memory")
	}
	empty := isa.Copy(api.Code{Ins: c.Ins[:0], Out: c.Out[:0]})
	_, _ = append(empty.Ins, api.Ins{Imm: 5}), append(empty.Out, 5)
	if !isa.Same(c, all(8)) {
		t.Error("Copy of empty lists shares memory")
	}
}
