package peephole_test

import (
	"math/rand/v2"
	"slices"
	"testing"

	"saturate/api"
	"saturate/isa"
	"saturate/learned"
	"saturate/live"
	"saturate/peephole"
	"saturate/refine"
	"saturate/superopt"
)

// randomIns returns an instruction for a program with some registers, often one that reads or defines a register of low number.
func randomIns(r *rand.Rand, regs int) api.Ins {
	reg := func() int { return min(r.IntN(regs), r.IntN(regs)) }
	i := api.Ins{Op: []api.MOp{api.MNop, api.MMovi, api.MMov, api.MNot, api.MNeg, api.MAnd, api.MAdd, api.MSub, api.MMul, api.MDiv, api.MRem, api.MEq}[r.IntN(12)]}
	if i.Op != api.MNop {
		i.Dst = reg()
	}
	for k, field := range []*int{&i.A, &i.B} {
		if k < isa.Sources(i.Op) {
			*field = reg()
		}
	}
	if i.Op == api.MMovi {
		i.Imm = r.Uint64N(2)
	}
	return i
}

// randomCode returns a valid program.
func randomCode(r *rand.Rand, width, regs, n int) api.Code {
	c := api.Code{Width: width, Regs: regs}
	for range n {
		c.Ins = append(c.Ins, randomIns(r, regs))
	}
	for reg := range regs {
		if r.IntN(2) == 0 {
			c.Out = append(c.Out, reg)
		}
	}
	r.Shuffle(len(c.Out), func(i, k int) { c.Out[i], c.Out[k] = c.Out[k], c.Out[i] })
	return c
}

// randomSwaps returns swaps of windows of a program; many of them are valid.
func randomSwaps(t *testing.T, r *rand.Rand, c api.Code) []api.Swap {
	t.Helper()
	var l []api.Swap
	for range 6 {
		n := 1 + r.IntN(3)
		from := r.IntN(len(c.Ins))
		window, e := live.Window(c, from, min(n, len(c.Ins)-from))
		if e != api.OK {
			t.Fatal(e)
		}
		canonical, _, e := learned.Canon(window)
		if e != api.OK {
			t.Fatal(e)
		}
		s := api.Swap{Width: c.Width, From: canonical, To: isa.Copy(canonical)}
		space := api.Space{Ops: []api.MOp{api.MMovi, api.MMov, api.MNot, api.MAnd}, Imms: []uint64{0, 1}, Most: 1, Fuel: 1000}
		if better, _, e := superopt.Search(canonical, space); e == api.OK {
			s.To = better
		}
		switch r.IntN(3) {
		case 0: // a further register, or a value that counts, can be changed
			s.To.Ins = slices.Insert(s.To.Ins, r.IntN(len(s.To.Ins)+1), randomIns(r, canonical.Regs))
		case 1:
			s.To.Ins = nil
			for range r.IntN(3) {
				s.To.Ins = append(s.To.Ins, randomIns(r, canonical.Regs))
			}
		}
		l = append(l, s)
	}
	return l
}

// unify returns the register of a window for each register of a program, if there is a renaming that makes the window of the program.
func unify(from, window api.Code) ([]int, bool) {
	to := slices.Repeat([]int{-1}, from.Regs)
	ok := len(from.Ins) == len(window.Ins) && len(from.Out) == len(window.Out)
	match := func(a, b int) {
		if to[a] < 0 && !slices.Contains(to, b) {
			to[a] = b
		}
		ok = ok && to[a] == b
	}
	for k := 0; ok && k < len(from.Ins); k++ {
		f, w := from.Ins[k], window.Ins[k]
		if f.Op != w.Op || f.Imm != w.Imm {
			return nil, false
		}
		for at, reg := range isa.Uses(f) {
			match(reg, isa.Uses(w)[at])
		}
		if f.Op != api.MNop {
			match(f.Dst, w.Dst)
		}
	}
	for k := 0; ok && k < len(from.Out); k++ {
		match(from.Out[k], window.Out[k])
	}
	if from.Regs == 1 && to[0] < 0 {
		to[0] = 0
	}
	return to, ok && !slices.Contains(to, -1)
}

// isLive reports whether a register is live before an instruction, or at the end.
func isLive(c api.Code, reg, at int) bool {
	for _, i := range c.Ins[at:] {
		if slices.Contains(isa.Uses(i), reg) {
			return true
		}
		if i.Op != api.MNop && i.Dst == reg {
			return false
		}
	}
	return slices.Contains(c.Out, reg)
}

// modelAt replaces a window as P56.1 says. It also returns why it does not, if so.
func modelAt(c api.Code, l []api.Swap, from, n int) (api.Code, string) {
	if from < 0 || n < 0 || from+n > len(c.Ins) {
		return c, "window"
	}
	window := api.Code{Width: c.Width, Regs: c.Regs, Ins: c.Ins[from : from+n]}
	defines := func(reg int) bool {
		return slices.ContainsFunc(window.Ins, func(i api.Ins) bool { return i.Op != api.MNop && i.Dst == reg })
	}
	for reg := range c.Regs {
		if defines(reg) && isLive(c, reg, from+n) {
			window.Out = append(window.Out, reg)
		}
	}
	for _, s := range l {
		to, ok := unify(s.From, window)
		if !ok || s.Width != c.Width {
			continue
		}
		if learned.Valid(s) != api.OK {
			return c, "invalid"
		}
		d := api.Code{Width: c.Width, Regs: c.Regs, Out: c.Out, Ins: slices.Clone(c.Ins[:from])}
		for _, i := range s.To.Ins {
			for k, field := range []*int{&i.A, &i.B, &i.C} {
				if k < isa.Sources(i.Op) {
					*field = to[*field]
				}
			}
			if i.Op != api.MNop {
				i.Dst = to[i.Dst]
				if isLive(c, i.Dst, from+n) && !defines(i.Dst) {
					return c, "spoils"
				}
			}
			d.Ins = append(d.Ins, i)
		}
		d.Ins = append(d.Ins, c.Ins[from+n:]...)
		return d, ""
	}
	return c, "none"
}

// modelOnce is Once as P56.2 says.
func modelOnce(c api.Code, l []api.Swap, most int) (api.Code, bool) {
	for from := range c.Ins {
		for n := min(most, peephole.Longest(l)); n >= 1; n-- {
			if d, why := modelAt(c, l, from, n); why == "" {
				return d, true
			}
		}
	}
	return c, false
}

// modelRun is Run as P56.3 says.
func modelRun(t *testing.T, c api.Code, l []api.Swap, most, rounds int) (api.Code, int) {
	t.Helper()
	made := 0
	for made < rounds {
		d, ok := modelOnce(c, l, most)
		if !ok {
			break
		}
		d, e := live.Remove(d)
		if e != api.OK {
			t.Fatal(e)
		}
		c = d
		made++
	}
	return c, made
}

// checkBetter checks P56.4 for a replacement.
func checkBetter(t *testing.T, c, d api.Code, l []api.Swap) {
	t.Helper()
	if isa.Cost(d) >= isa.Cost(c) {
		t.Fatalf("%s costs no less than %s", text(d), text(c))
	}
	if ok, state, e := refine.Check(c, d); !ok || e != api.OK {
		t.Fatalf("%s does not refine %s for %v (%d), with %v", text(d), text(c), state, e, l)
	}
}

// TestModel checks P56.1 to P56.4 for random programs and swaps.
func TestModel(t *testing.T) {
	r := rand.New(rand.NewPCG(56, 1))
	count := map[string]int{}
	several := 0
	for range 4000 {
		c := randomCode(r, 1+r.IntN(2), 2+r.IntN(3), 3+r.IntN(6))
		l := randomSwaps(t, r, c)
		for from := range len(c.Ins) + 1 {
			for n := range 5 {
				want, why := modelAt(c, l, from, n)
				d, ok := peephole.At(c, l, from, n)
				if ok != (why == "") || !isa.Same(d, want) {
					t.Fatalf("%s at %d, %d, with %v: %s, %v, not %s, %s", text(c), from, n, l, text(d), ok, text(want), why)
				}
				count[why]++
				if ok {
					checkBetter(t, c, d, l)
				}
			}
		}
		most, rounds := r.IntN(4), r.IntN(5)
		want, ok := modelOnce(c, l, most)
		if d, found := peephole.Once(c, l, most); found != ok || !isa.Same(d, want) {
			t.Fatalf("%s, with %v: %s, %v, not %s", text(c), l, text(d), found, text(want))
		}
		want, made := modelRun(t, c, l, most, rounds)
		d, n, e := peephole.Run(c, l, most, rounds)
		if e != api.OK || n != made || !isa.Same(d, want) {
			t.Fatalf("%s, with %v: %s, %d, %d, not %s, %d", text(c), l, text(d), n, e, text(want), made)
		}
		if made > 0 {
			checkBetter(t, c, d, l)
		}
		if made > 1 {
			several++
		}
	}
	if count[""] < 500 || count["spoils"] < 20 || count["invalid"] < 500 || count["none"] < 500 || several < 50 {
		t.Error(count, several)
	}
}

// TestRefines checks P56.4 for a program with many registers, as swaps are learned from it.
func TestRefines(t *testing.T) {
	c := code(t, "width 2 regs 8; mul r7 r0 r1; sub r7 r7 r7; not r6 r2; not r6 r6; add r5 r3 r3; add r5 r5 r5; rem r4 r6 r6; add r0 r7 r6; or r1 r5 r4; out r0 r1 r6")
	space := api.Space{Ops: []api.MOp{api.MMovi, api.MMov}, Imms: []uint64{0}, Most: 1, Fuel: 1000}
	l, e := learned.Learn(c, 2, space)
	if e != api.OK || len(l) < 4 {
		t.Fatal(l, e)
	}
	d, made, e := peephole.Run(c, l, 4, 100)
	if e != api.OK || made < 4 {
		t.Fatal(text(d), made, e)
	}
	checkBetter(t, c, d, l)
	if again, n, e := peephole.Run(d, l, 4, 100); n != 0 || e != api.OK || !isa.Same(again, d) {
		t.Error(text(again), n, e)
	}
}
