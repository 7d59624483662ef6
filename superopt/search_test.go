package superopt_test

import (
	"math/rand/v2"
	"testing"

	"saturate/api"
	"saturate/isa"
	"saturate/refine"
	"saturate/superopt"
)

// naiveSearch does what P54.3 describes for valid arguments.
func naiveSearch(c api.Code, s api.Space) (api.Code, int, api.Errno) {
	for index := range s.Fuel {
		d, ok := superopt.At(c, s, index)
		if !ok {
			return api.Code{}, index, api.ErrNone
		}
		if isa.Cost(d) >= isa.Cost(c) {
			continue
		}
		if ok, _, _ := refine.Check(c, d); ok {
			return d, index, api.OK
		}
	}
	if superopt.Total(c, s) == s.Fuel {
		return api.Code{}, s.Fuel, api.ErrNone
	}
	return api.Code{}, s.Fuel, api.ErrFuel
}

// checkSearch checks Search for valid arguments, and returns its error.
func checkSearch(t *testing.T, c api.Code, s api.Space) api.Errno {
	t.Helper()
	want, wantIndex, wantError := naiveSearch(c, s)
	d, index, e := superopt.Search(c, s)
	if !isa.Same(d, want) || index != wantIndex || e != wantError {
		t.Fatalf("%sin %v is\n%s%d, %d, not\n%s%d, %d", isa.Print(c), s, isa.Print(d), index, e, isa.Print(want), wantIndex, wantError)
	}
	return e
}

// randomCode returns a program with few different operations.
func randomCode(r *rand.Rand, w, regs, length int) api.Code {
	c := api.Code{Width: w, Regs: regs}
	for range length {
		i := api.Ins{Op: api.MOp(r.IntN(20))}
		if i.Op != api.MNop {
			i.Dst = r.IntN(regs)
		}
		for k, field := range []*int{&i.A, &i.B, &i.C} {
			if k < isa.Sources(i.Op) {
				*field = r.IntN(regs)
			}
		}
		if i.Op == api.MMovi {
			i.Imm = r.Uint64N(1 << w)
		}
		c.Ins = append(c.Ins, i)
	}
	c.Out = r.Perm(regs)[:r.IntN(regs+1)]
	return c
}

// TestSearch checks P54.3 and P54.4 for random programs and spaces.
func TestSearch(t *testing.T) {
	r := rand.New(rand.NewPCG(54, 1))
	counts := map[api.Errno]int{}
	for range 400 {
		w, regs := 1+r.IntN(3), 1+r.IntN(3)
		c := randomCode(r, w, regs, r.IntN(6))
		s := api.Space{Imms: []uint64{1, 9, 0, 3}[:r.IntN(5)], Most: r.IntN(4), Fuel: 3000}
		for _, op := range r.Perm(20)[:r.IntN(6)] {
			s.Ops = append(s.Ops, api.MOp(op))
		}
		counts[checkSearch(t, c, s)]++
		// The fuel ends before, at, and after the program that is found.
		_, index, e := superopt.Search(c, s)
		for _, fuel := range []int{index - 1, index, index + 1} {
			if s.Fuel = fuel; fuel >= 0 && e != api.ErrFuel {
				counts[checkSearch(t, c, s)]++
			}
		}
	}
	if counts[api.OK] < 100 || counts[api.ErrNone] < 100 || counts[api.ErrFuel] < 100 {
		t.Error(counts)
	}
}

// TestSearchErrors checks the errors of P54.3 and their order.
func TestSearchErrors(t *testing.T) {
	good := code(t, "width 8 regs 2\nmul r0 r0 r1\nout r0\n")
	wide := code(t, "width 8 regs 3\nadd r0 r0 r1\nadd r0 r0 r2\nout r0\n")
	fine := api.Space{Ops: []api.MOp{api.MMov}, Most: 1, Fuel: 100}
	for i, x := range []struct {
		c    api.Code
		s    api.Space
		want api.Errno
	}{
		{api.Code{}, fine, api.ErrWidth}, {api.Code{Width: 8}, fine, api.ErrReg}, {api.Code{Width: 8, Regs: 1, Ins: []api.Ins{{Op: 99}}}, fine, api.ErrOp}, {api.Code{Width: 8, Regs: 1, Ins: []api.Ins{{Op: api.MMovi, Imm: 256}}}, fine, api.ErrRange}, {api.Code{Width: 8, Regs: 1, Ins: []api.Ins{{A: 1}}}, fine, api.ErrForm}, {api.Code{Width: 8, Regs: 1, Out: []int{0, 0}}, fine, api.ErrDup}, {api.Code{Width: 8, Regs: 1, Ins: make([]api.Ins, 257)}, fine, api.ErrLong},
		{api.Code{}, api.Space{Most: 9}, api.ErrWidth}, {good, api.Space{Most: 9}, api.ErrRange}, {good, api.Space{Fuel: -1}, api.ErrRange}, {good, api.Space{Ops: []api.MOp{77}}, api.ErrOp}, {good, api.Space{Imms: []uint64{2, 2}}, api.ErrDup},
		{wide, api.Space{Most: 9}, api.ErrRange}, {wide, fine, api.ErrLong}, {wide, api.Space{}, api.ErrLong}, {code(t, "width 17 regs 1\nneg r0 r0\nneg r0 r0\nout r0\n"), fine, api.ErrLong},
	} {
		if d, n, e := superopt.Search(x.c, x.s); e != x.want || n != 0 || !isa.Same(d, api.Code{}) {
			t.Errorf("case %d: %s, %d, %d, not %d", i, isa.Print(d), n, e, x.want)
		}
	}
}

// TestFuel checks the numbers that P54.3 returns without a program.
func TestFuel(t *testing.T) {
	c := code(t, "width 8 regs 2\nmul r0 r0 r1\nout r0\n")
	for i, x := range []struct {
		ops              []api.MOp
		most, fuel, want int
		e                api.Errno
	}{
		{nil, 0, 0, 0, api.ErrFuel}, {nil, 8, 1, 1, api.ErrNone}, {nil, 8, 1 << 24, 1, api.ErrNone}, {[]api.MOp{api.MNop}, 2, 9, 1, api.ErrNone},
		{[]api.MOp{api.MMov}, 2, 21, 21, api.ErrNone}, {[]api.MOp{api.MMov}, 2, 20, 20, api.ErrFuel}, {[]api.MOp{api.MMov}, 2, 22, 21, api.ErrNone}, {[]api.MOp{api.MMov}, 8, 1000, 1000, api.ErrFuel}, {allOps(), 8, 1 << 24, 1 << 24, api.ErrFuel},
	} {
		if d, n, e := superopt.Search(c, api.Space{Ops: x.ops, Most: x.most, Fuel: x.fuel}); e != x.e || n != x.want || !isa.Same(d, api.Code{}) {
			t.Errorf("case %d: %s, %d, %d, not %d, %d", i, isa.Print(d), n, e, x.want, x.e)
		}
	}
	// A program that costs nothing has no cheaper one.
	for _, s := range []string{"width 8 regs 2\nout r0\n", "width 8 regs 2\nnop\nout\n"} {
		if d, n, e := superopt.Search(code(t, s), api.Space{Ops: []api.MOp{api.MMov}, Most: 2, Fuel: 100}); e != api.ErrNone || n != 21 || !isa.Same(d, api.Code{}) {
			t.Error(isa.Print(d), n, e)
		}
	}
}

// TestTraps checks P54.3 for programs that trap for many states.
func TestTraps(t *testing.T) {
	s := api.Space{Ops: []api.MOp{api.MMovi, api.MXor, api.MDiv}, Imms: []uint64{0, 5, 1}, Most: 2, Fuel: 100000}
	for i, x := range []struct{ text, want string }{
		// It traps always, and so every program refines it.
		{"width 3 regs 2\nmovi r1 0\ndiv r0 r0 r1\nout r0\n", "width 3 regs 2\nout r0\n"},
		// It traps for all states but one.
		{"width 3 regs 2\nmovi r1 5\neq r1 r1 r0\nrem r1 r0 r1\nout r0 r1\n", "width 3 regs 2\nmovi r1 0\nout r0 r1\n"},
		{"width 3 regs 2\nmovi r1 5\neq r1 r1 r0\ndiv r1 r0 r1\nout r1\n", "width 3 regs 2\nmovi r1 5\nout r1\n"},
		// The quotient may trap, and the remainder may not.
		{"width 3 regs 2\ndiv r0 r0 r1\nmul r0 r0 r1\nout r0\n", ""},
		{"width 3 regs 2\ndiv r0 r1 r1\nout r0\n", "width 3 regs 2\nmovi r0 1\nout r0\n"},
	} {
		c := code(t, x.text)
		d, _, e := superopt.Search(c, s)
		if x.want == "" && e != api.ErrNone || x.want != "" && (e != api.OK || isa.Print(d) != x.want) {
			t.Errorf("case %d: %s, %d", i, isa.Print(d), e)
		}
		checkSearch(t, c, api.Space{Ops: s.Ops, Imms: s.Imms, Most: 2, Fuel: 700})
	}
}

// TestInputs checks that a program with too many inputs for refine.Check is not found (P54.3).
func TestInputs(t *testing.T) {
	c := code(t, "width 8 regs 3\nmovi r0 0\nmul r0 r0 r0\nadd r1 r1 r2\nout r0 r1\n")
	s := api.Space{Ops: []api.MOp{api.MXor, api.MAdd}, Most: 2, Fuel: 10000}
	// The program with xor r0 r0 r0 comes before this one.
	if d, n, e := superopt.Search(c, s); e != api.OK || isa.Print(d) != "width 8 regs 3\nxor r0 r1 r1\nadd r1 r1 r2\nout r0 r1\n" || n != 1+54+54*4+27+9+3+2 {
		t.Error(isa.Print(d), n, e)
	}
	// Without an input, the other one is found.
	c = code(t, "width 8 regs 3\nmovi r0 0\nmul r0 r0 r0\nadd r1 r1 r1\nout r0 r1\n")
	if d, n, e := superopt.Search(c, s); e != api.OK || isa.Print(d) != "width 8 regs 3\nxor r0 r0 r0\nadd r1 r1 r1\nout r0 r1\n" || n != 1+54+27+9+3+1 {
		t.Error(isa.Print(d), n, e)
	}
}

// TestMemory checks general rule 5 for Search.
func TestMemory(t *testing.T) {
	c := code(t, "width 4 regs 2\nneg r0 r0\nneg r0 r0\nout r0\n")
	d, n, e := superopt.Search(c, api.Space{Fuel: 10})
	if e != api.OK || n != 0 || len(d.Ins) != 0 || len(d.Out) != 1 {
		t.Fatal(isa.Print(d), n, e)
	}
	d.Out[0] = 1
	if c.Out[0] != 0 {
		t.Error("the program shares memory with c")
	}
}
