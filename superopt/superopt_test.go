package superopt_test

import (
	"math"
	"slices"
	"testing"

	"saturate/api"
	"saturate/isa"
	"saturate/superopt"
)

// code reads a program.
func code(t *testing.T, s string) api.Code {
	t.Helper()
	c, _, e := isa.Parse(s)
	if e != api.OK {
		t.Fatalf("%s: %d", s, e)
	}
	return c
}

// allOps returns all operations, nop included.
func allOps() []api.MOp {
	var l []api.MOp
	for op := api.MNop; op <= api.MSel; op++ {
		l = append(l, op)
	}
	return l
}

// numbers returns the numbers below n.
func numbers(n int) []uint64 {
	var l []uint64
	for k := range n {
		l = append(l, uint64(k))
	}
	return l
}

// TestExample checks the example of chapter 54.
func TestExample(t *testing.T) {
	c := code(t, "width 8 regs 1\nadd r0 r0 r0\nadd r0 r0 r0\nout r0\n")
	s := api.Space{Ops: []api.MOp{api.MShl, api.MMovi}, Imms: []uint64{2}, Most: 8, Fuel: 1 << 24}
	if d, n, e := superopt.Search(c, s); e != api.ErrNone || n != superopt.Total(c, s) || !isa.Same(d, api.Code{}) {
		t.Error(isa.Print(d), n, e)
	}
	c = code(t, "width 4 regs 2\nmovi r1 4\nmul r0 r0 r1\nout r0\n")
	if d, n, e := superopt.Search(c, s); e != api.OK || isa.Print(d) != "width 4 regs 2\nmovi r1 2\nshl r0 r0 r1\nout r0\n" || n != 1+10+9*10+1 {
		t.Error(isa.Print(d), n, e)
	}
}

// TestCheck checks the errors of Check (P54.1) and their order.
func TestCheck(t *testing.T) {
	for i, c := range []struct {
		s    api.Space
		want api.Errno
	}{
		{api.Space{}, api.OK}, {api.Space{Ops: allOps(), Imms: []uint64{0, math.MaxUint64}, Most: 8, Fuel: 1 << 24}, api.OK}, {api.Space{Ops: []api.MOp{}, Imms: []uint64{}}, api.OK}, {api.Space{Ops: []api.MOp{api.MNop}}, api.OK},
		{api.Space{Ops: []api.MOp{20}}, api.ErrOp}, {api.Space{Ops: []api.MOp{-1}}, api.ErrOp}, {api.Space{Ops: []api.MOp{math.MaxInt}}, api.ErrOp}, {api.Space{Ops: []api.MOp{1, 2, 1}}, api.ErrOp}, {api.Space{Ops: []api.MOp{0, 0}}, api.ErrOp}, {api.Space{Ops: []api.MOp{5, 99}, Imms: []uint64{1, 1}, Most: -1}, api.ErrOp}, {api.Space{Ops: []api.MOp{5, 5}, Imms: []uint64{1, 1}, Fuel: -1}, api.ErrOp},
		{api.Space{Imms: []uint64{1, 1}}, api.ErrDup}, {api.Space{Imms: []uint64{7, 0, math.MaxUint64, 3, 0}}, api.ErrDup}, {api.Space{Imms: []uint64{1, 1}, Most: 9, Fuel: -1}, api.ErrDup},
		{api.Space{Most: -1}, api.ErrRange}, {api.Space{Most: 9}, api.ErrRange}, {api.Space{Most: math.MinInt}, api.ErrRange}, {api.Space{Most: math.MaxInt}, api.ErrRange}, {api.Space{Fuel: -1}, api.ErrRange}, {api.Space{Fuel: 1<<24 + 1}, api.ErrRange}, {api.Space{Fuel: math.MinInt}, api.ErrRange}, {api.Space{Fuel: math.MaxInt}, api.ErrRange},
	} {
		if e := superopt.Check(c.s); e != c.want {
			t.Errorf("case %d: %d, not %d", i, e, c.want)
		}
		l := superopt.Instructions(8, 2, c.s)
		empty := api.Code{Width: 8, Regs: 2}
		n := superopt.Total(empty, c.s)
		_, ok := superopt.At(empty, c.s, 0)
		if c.want != api.OK && (len(l) != 0 || n != 0 || ok) || c.want == api.OK && (n == 0 || !ok) {
			t.Errorf("case %d: %d instructions, %d programs, %v", i, len(l), n, ok)
		}
	}
}

// naive returns the instructions of a space as P54.1 describes them.
func naive(w, regs int, s api.Space) []api.Ins {
	var l []api.Ins
	sources := map[api.MOp]int{api.MMovi: 0, api.MMov: 1, api.MNot: 1, api.MNeg: 1, api.MSel: 3}
	for _, op := range s.Ops {
		n, special := sources[op]
		if !special {
			n = 2
		}
		size := func(used bool) int {
			if used {
				return regs
			}
			return 1
		}
		for dst := range size(true) {
			for a := range size(n > 0) {
				for b := range size(n > 1) {
					for c := range size(n > 2) {
						switch op {
						case api.MNop:
						case api.MMovi:
							for _, imm := range s.Imms {
								if w == 64 || imm < 1<<w {
									l = append(l, api.Ins{Op: op, Dst: dst, Imm: imm})
								}
							}
						default:
							l = append(l, api.Ins{Op: op, Dst: dst, A: a, B: b, C: c})
						}
					}
				}
			}
		}
	}
	return l
}

// TestInstructions checks the order of instructions (P54.1).
func TestInstructions(t *testing.T) {
	mixed := []api.MOp{api.MSel, api.MMovi, api.MNop, api.MNot, api.MAdd, api.MMov}
	imms := []uint64{9, 0, 255, math.MaxUint64, 1, 256, 7, 8, 1 << 63}
	for _, ops := range [][]api.MOp{nil, {api.MNop}, {api.MMovi}, mixed, allOps()} {
		for _, w := range []int{1, 3, 8, 63, 64} {
			for regs := 1; regs <= 8; regs++ {
				s := api.Space{Ops: ops, Imms: imms, Most: 1}
				if l := superopt.Instructions(w, regs, s); !slices.Equal(l, naive(w, regs, s)) {
					t.Errorf("width %d, %d registers: %v", w, regs, l)
				}
			}
		}
		for _, w := range []int{0, -1, 65, math.MinInt, math.MaxInt} {
			if l := superopt.Instructions(w, 2, api.Space{Ops: ops, Imms: imms}); len(l) != 0 {
				t.Errorf("width %d: %v", w, l)
			}
			if l := superopt.Instructions(8, min(w, 9), api.Space{Ops: ops, Imms: imms}); len(l) != 0 {
				t.Errorf("%d registers: %v", w, l)
			}
		}
		if l := superopt.Instructions(8, 9, api.Space{Ops: ops, Imms: imms}); len(l) != 0 {
			t.Errorf("9 registers: %v", l)
		}
	}
	if l := superopt.Instructions(8, 2, api.Space{Ops: []api.MOp{api.MMovi}, Imms: []uint64{256}}); len(l) != 0 {
		t.Error(l)
	}
}

// TestManyInstructions checks that there are at most 65536 instructions (P54.1).
func TestManyInstructions(t *testing.T) {
	for _, n := range []int{8191, 8192, 8193, 70000} {
		s := api.Space{Ops: []api.MOp{api.MMovi, api.MNot}, Imms: numbers(n), Most: 1}
		want := naive(64, 8, s)
		want = want[:min(len(want), 65536)]
		if l := superopt.Instructions(64, 8, s); !slices.Equal(l, want) {
			t.Errorf("%d immediate values: %d instructions", n, len(l))
		}
		if total := superopt.Total(api.Code{Width: 64, Regs: 8}, s); total != 1+len(want) {
			t.Errorf("%d immediate values: %d programs", n, total)
		}
	}
}

// TestAt checks Total and At (P54.2) by the order of programs.
func TestAt(t *testing.T) {
	c := code(t, "width 4 regs 2\nadd r0 r1 r1\nout r1 r0\n")
	s := api.Space{Ops: []api.MOp{api.MNot, api.MMovi}, Imms: []uint64{3, 0, 16}, Most: 3}
	list := naive(4, 2, s)
	index := 0
	var visit func(ins []api.Ins, further int)
	visit = func(ins []api.Ins, further int) {
		if further == 0 {
			want := api.Code{Width: 4, Regs: 2, Ins: ins, Out: []int{1, 0}}
			if d, ok := superopt.At(c, s, index); !ok || !isa.Same(d, want) {
				t.Errorf("program %d is %s, not %s", index, isa.Print(d), isa.Print(want))
			}
			index++
			return
		}
		for _, i := range list {
			visit(append(slices.Clone(ins), i), further-1)
		}
	}
	for length := range s.Most + 1 {
		visit(nil, length)
	}
	if n := superopt.Total(c, s); n != index {
		t.Errorf("Total is %d, not %d", n, index)
	}
	for _, at := range []int{-1, index, index + 1, math.MinInt, math.MaxInt} {
		if d, ok := superopt.At(c, s, at); ok || !isa.Same(d, api.Code{}) {
			t.Errorf("program %d is %s", at, isa.Print(d))
		}
	}
	d, _ := superopt.At(c, s, 40)
	d.Out[0] = 0
	if c.Out[0] != 1 {
		t.Error("the program shares memory with c")
	}
}

// TestTotal checks the numbers of programs of P54.2.
func TestTotal(t *testing.T) {
	c := code(t, "width 8 regs 8\nout r0\n")
	for i, x := range []struct {
		s    api.Space
		want int
	}{
		{api.Space{}, 1}, {api.Space{Most: 8}, 1}, {api.Space{Ops: []api.MOp{api.MNop, api.MMovi}, Most: 8}, 1}, {api.Space{Ops: []api.MOp{api.MMov}}, 1}, {api.Space{Ops: []api.MOp{api.MMov}, Most: 1}, 65}, {api.Space{Ops: []api.MOp{api.MMov}, Most: 2}, 65 + 64*64},
		{api.Space{Ops: []api.MOp{api.MMov}, Most: 6}, 1 + 1<<6 + 1<<12 + 1<<18 + 1<<24 + 1<<30 + 1<<36}, {api.Space{Ops: []api.MOp{api.MMov}, Most: 7}, 1 << 40}, {api.Space{Ops: []api.MOp{api.MSel}, Most: 3}, 1 + 1<<12 + 1<<24 + 1<<36}, {api.Space{Ops: []api.MOp{api.MSel}, Most: 4}, 1 << 40}, {api.Space{Ops: allOps(), Imms: numbers(256), Most: 8}, 1 << 40},
		{api.Space{Ops: []api.MOp{api.MMovi}, Imms: numbers(4), Most: 8}, 1 << 40},
	} {
		if n := superopt.Total(c, x.s); n != x.want {
			t.Errorf("space %d: %d, not %d", i, n, x.want)
		}
		if _, ok := superopt.At(c, x.s, x.want-1); !ok {
			t.Errorf("space %d has no last program", i)
		}
		if _, ok := superopt.At(c, x.s, x.want); ok {
			t.Errorf("space %d has a further program", i)
		}
	}
	// 1 + 32 + .. + 32^7 is less than the limit, which is 32^8.
	s := api.Space{Ops: []api.MOp{api.MMovi}, Imms: numbers(4), Most: 8}
	first := 0
	for range 8 {
		first = first*32 + 1
	}
	if d, ok := superopt.At(c, s, first); !ok || len(d.Ins) != 8 || d.Ins[0] != d.Ins[7] || d.Ins[0] != (api.Ins{Op: api.MMovi}) {
		t.Error(d, ok)
	}
	if d, ok := superopt.At(c, s, first-1); !ok || len(d.Ins) != 7 || d.Ins[0] != (api.Ins{Op: api.MMovi, Dst: 7, Imm: 3}) {
		t.Error(d, ok)
	}
	if d, ok := superopt.At(c, s, 1<<40-1); !ok || len(d.Ins) != 8 || d.Ins[0] != (api.Ins{Op: api.MMovi, Dst: 7, Imm: 2}) {
		t.Error(d, ok)
	}
	for i, c := range []api.Code{{}, {Width: 65, Regs: 1}, {Width: 8, Regs: 9}, {Width: 8, Regs: 1, Out: []int{1}}, {Width: 8, Regs: 1, Ins: []api.Ins{{Op: 20}}}} {
		_, ok := superopt.At(c, api.Space{Ops: []api.MOp{api.MMov}, Most: 2}, 0)
		if n := superopt.Total(c, api.Space{Ops: []api.MOp{api.MMov}, Most: 2}); n != 0 || ok {
			t.Errorf("invalid program %d: %d, %v", i, n, ok)
		}
	}
}
