package learned_test

import (
	"math"
	"math/rand/v2"
	"slices"
	"testing"

	"saturate/api"
	"saturate/isa"
	"saturate/learned"
)

// code reads a program.
func code(t *testing.T, s string) api.Code {
	t.Helper()
	c, _, e := isa.Parse(s)
	if e != api.OK {
		t.Fatalf("%s: %d", s, e)
	}
	return c
}

// randomCode returns a valid program.
func randomCode(r *rand.Rand, w, regs, length int) api.Code {
	c := api.Code{Width: w, Regs: regs}
	for range length {
		i := api.Ins{Op: api.MOp(r.IntN(20))}
		if i.Op != api.MNop {
			i.Dst = r.IntN(regs)
		}
		for k, field := range []*int{&i.A, &i.B, &i.C} {
			if k < isa.Sources(i.Op) {
				*field = r.IntN(regs)
			}
		}
		if i.Op == api.MMovi {
			i.Imm = r.Uint64N(1 << w)
		}
		c.Ins = append(c.Ins, i)
	}
	c.Out = r.Perm(regs)[:r.IntN(regs+1)]
	return c
}

// invalid returns programs that are not valid, by the errors of isa.Check.
func invalid() map[api.Errno]api.Code {
	return map[api.Errno]api.Code{
		api.ErrWidth: {Width: 65, Regs: 1},
		api.ErrReg:   {Width: 8, Regs: 9},
		api.ErrLong:  {Width: 8, Regs: 1, Ins: make([]api.Ins, api.MaxCode+1)},
		api.ErrOp:    {Width: 8, Regs: 1, Ins: []api.Ins{{Op: 20}}},
		api.ErrRange: {Width: 8, Regs: 1, Ins: []api.Ins{{Op: api.MMovi, Imm: 256}}},
		api.ErrForm:  {Width: 8, Regs: 1, Ins: []api.Ins{{Dst: 0, B: 5}}},
		api.ErrDup:   {Width: 8, Regs: 1, Out: []int{0, 0}},
	}
}

// TestCanonForms checks canonical forms (P55.1).
func TestCanonForms(t *testing.T) {
	for _, x := range []struct {
		text, want string
		regs       []int
	}{
		{"width 8 regs 4\nxor r3 r1 r1\nout r3\n", "width 8 regs 2\nxor r1 r0 r0\nout r1\n", []int{1, 3}}, // example 2
		{"width 8 regs 8\nout\n", "width 8 regs 1\nout\n", []int{0}},
		{"width 8 regs 8\nnop\nnop\nout\n", "width 8 regs 1\nnop\nnop\nout\n", []int{0}},
		{"width 8 regs 8\nnop\nout r5\n", "width 8 regs 1\nnop\nout r0\n", []int{5}},
		{"width 8 regs 8\nout r5 r0 r7\n", "width 8 regs 3\nout r0 r1 r2\n", []int{5, 0, 7}},
		{"width 8 regs 8\nmovi r6 200\nout\n", "width 8 regs 1\nmovi r0 200\nout\n", []int{6}},
		{"width 8 regs 8\nmovi r0 7\nmovi r3 7\nout r3\n", "width 8 regs 2\nmovi r0 7\nmovi r1 7\nout r1\n", []int{0, 3}},
		{"width 8 regs 8\nmov r2 r4\nneg r4 r2\nnot r0 r0\nout r0 r2 r4\n", "width 8 regs 3\nmov r1 r0\nneg r0 r1\nnot r2 r2\nout r2 r1 r0\n", []int{4, 2, 0}},
		{"width 8 regs 8\nsel r1 r7 r6 r5\nout r1\n", "width 8 regs 4\nsel r3 r0 r1 r2\nout r3\n", []int{7, 6, 5, 1}},
		{"width 8 regs 8\nsel r5 r7 r5 r6\nsub r1 r0 r7\nout r1\n", "width 8 regs 5\nsel r1 r0 r1 r2\nsub r4 r3 r0\nout r4\n", []int{7, 5, 6, 0, 1}},
		{"width 64 regs 2\nmovi r1 18446744073709551615\ndiv r1 r0 r1\nout r1\n", "width 64 regs 2\nmovi r0 18446744073709551615\ndiv r0 r1 r0\nout r0\n", []int{1, 0}},
		{"width 8 regs 8\nadd r0 r1 r2\nadd r3 r4 r5\nadd r6 r7 r0\nout r7 r6\n", "width 8 regs 8\nadd r2 r0 r1\nadd r5 r3 r4\nadd r7 r6 r2\nout r6 r7\n", []int{1, 2, 0, 4, 5, 3, 7, 6}},
	} {
		c := code(t, x.text)
		if d, l, e := learned.Canon(c); isa.Print(d) != x.want || !slices.Equal(l, x.regs) || e != api.OK {
			t.Errorf("%q: %q, %v, %d", x.text, isa.Print(d), l, e)
		}
		if !isa.Same(c, code(t, x.text)) {
			t.Errorf("%q is changed", x.text)
		}
	}
	for want, c := range invalid() {
		if d, l, e := learned.Canon(c); !isa.Same(d, api.Code{}) || len(l) != 0 || e != want {
			t.Errorf("%q: %q, %v, %d", isa.Print(c), isa.Print(d), l, e)
		}
	}
}

// TestRename checks results of Rename (P55.1).
func TestRename(t *testing.T) {
	for _, x := range []struct {
		text string
		to   []int
		regs int
		want string
	}{
		{"width 8 regs 2\nsub r0 r1 r0\nout r0\n", []int{3, 1, 9}, 4, "width 8 regs 4\nsub r3 r1 r3\nout r3\n"},
		{"width 8 regs 3\nnop\nmovi r0 255\nmov r1 r0\nsel r2 r0 r1 r2\nout r2 r0\n", []int{7, 0, 4}, 8, "width 8 regs 8\nnop\nmovi r7 255\nmov r0 r7\nsel r4 r7 r0 r4\nout r4 r7\n"},
		{"width 8 regs 1\nout\n", []int{0, 0, 0}, 1, "width 8 regs 1\nout\n"},
		{"width 8 regs 2\nnot r1 r1\nout r1\n", []int{1, 0}, 2, "width 8 regs 2\nnot r0 r0\nout r0\n"},
	} {
		c, to := code(t, x.text), slices.Clone(x.to)
		if d, e := learned.Rename(c, to, x.regs); isa.Print(d) != x.want || e != api.OK {
			t.Errorf("%q: %q, %d", x.text, isa.Print(d), e)
		}
		if !isa.Same(c, code(t, x.text)) || !slices.Equal(to, x.to) {
			t.Errorf("%q: an argument is changed", x.text)
		}
	}
}

// TestRenameErrors checks the errors of Rename and their order (P55.1).
func TestRenameErrors(t *testing.T) {
	c := code(t, "width 8 regs 3\nadd r0 r1 r2\nout r0\n")
	for i, x := range []struct {
		to   []int
		regs int
		want api.Errno
	}{
		{[]int{0, 1, 2}, 0, api.ErrReg}, {[]int{0, 1, 2}, 9, api.ErrReg}, {[]int{0, 1, 2}, -1, api.ErrReg}, {[]int{0, 1, 2}, math.MaxInt, api.ErrReg}, {[]int{0, 1, 2}, math.MinInt, api.ErrReg}, {nil, 8, api.ErrReg}, {[]int{0, 1}, 8, api.ErrReg}, {[]int{0, 1, 8}, 8, api.ErrReg}, {[]int{-1, 1, 2}, 8, api.ErrReg}, {[]int{0, math.MinInt, 2}, 8, api.ErrReg}, {[]int{0, 1, 2}, 2, api.ErrReg},
		{[]int{1, 1, 3}, 3, api.ErrReg}, {[]int{1, 1, -1}, 8, api.ErrReg}, {[]int{1, 1}, 8, api.ErrReg}, {[]int{1, 1, 0}, 9, api.ErrReg},
		{[]int{1, 1, 0}, 8, api.ErrDup}, {[]int{0, 7, 0}, 8, api.ErrDup}, {[]int{0, 0, 0, 5}, 1, api.ErrDup},
		{[]int{0, 1, 2, 2, -9, 100}, 3, api.OK}, {[]int{7, 6, 5}, 8, api.OK},
	} {
		d, e := learned.Rename(c, x.to, x.regs)
		if e != x.want || e != api.OK && !isa.Same(d, api.Code{}) {
			t.Errorf("case %d: %q, %d, not %d", i, isa.Print(d), e, x.want)
		}
	}
	for want, c := range invalid() {
		for _, to := range [][]int{{0}, nil, {0, 0}} {
			if d, e := learned.Rename(c, to, 9); !isa.Same(d, api.Code{}) || e != want {
				t.Errorf("%q: %q, %d", isa.Print(c), isa.Print(d), e)
			}
		}
	}
	// Registers that do not occur count, too.
	if _, e := learned.Rename(code(t, "width 8 regs 2\nout\n"), []int{1, 1}, 2); e != api.ErrDup {
		t.Error(e)
	}
}

// TestRenamed checks that renaming does not change the canonical form (P55.5), and that the registers that Canon returns restore a program.
func TestRenamed(t *testing.T) {
	r := rand.New(rand.NewPCG(55, 1))
	for range 2000 {
		regs := 1 + r.IntN(8)
		c := randomCode(r, 1+r.IntN(8), regs, r.IntN(6))
		canonical, l, e := learned.Canon(c)
		if e != api.OK || len(l) != canonical.Regs {
			t.Fatal(isa.Print(c), l, e)
		}
		if again, own, e := learned.Canon(canonical); !isa.Same(again, canonical) || e != api.OK || !slices.IsSorted(own) || len(own) != len(l) {
			t.Fatalf("the canonical form of %q is %q", isa.Print(canonical), isa.Print(again))
		}
		if d, e := learned.Rename(canonical, l, regs); !isa.Same(d, c) || e != api.OK {
			t.Fatalf("%q is restored to %q", isa.Print(c), isa.Print(d))
		}
		more := regs + r.IntN(9-regs)
		d, e := learned.Rename(c, r.Perm(more)[:regs], more)
		if e != api.OK {
			t.Fatal(e)
		}
		if again, _, e := learned.Canon(d); !isa.Same(again, canonical) || e != api.OK {
			t.Fatalf("%q has the form %q, not %q", isa.Print(d), isa.Print(again), isa.Print(canonical))
		}
	}
}

// TestCanonMemory checks general rule 5.
func TestCanonMemory(t *testing.T) {
	const text = "width 8 regs 1\nnot r0 r0\nout r0\n"
	c := code(t, text)
	d, _, _ := learned.Canon(c)
	renamed, _ := learned.Rename(c, []int{0}, 1)
	for _, x := range []api.Code{d, renamed} {
		x.Ins[0].Op = api.MNeg
		x.Out[0] = 7
	}
	if isa.Print(c) != text {
		t.Error(isa.Print(c))
	}
}
