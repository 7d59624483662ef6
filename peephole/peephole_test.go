package peephole_test

import (
	"math"
	"slices"
	"strings"
	"testing"

	"saturate/api"
	"saturate/isa"
	"saturate/learned"
	"saturate/peephole"
)

// code reads a program; its lines are separated by semicolons.
func code(t *testing.T, s string) api.Code {
	t.Helper()
	c, line, e := isa.Parse(strings.ReplaceAll(s, "; ", "\n") + "\n")
	if e != api.OK {
		t.Fatalf("%s: line %d, %d", s, line, e)
	}
	return c
}

// text is the inverse of code.
func text(c api.Code) string {
	return strings.ReplaceAll(strings.TrimSuffix(isa.Print(c), "\n"), "\n", "; ")
}

// swap returns a swap of programs that have the same first line and Out.
func swap(t *testing.T, first, from, to, out string) api.Swap {
	t.Helper()
	join := func(ins string) api.Code {
		if ins == "" {
			return code(t, first+"; "+out)
		}
		return code(t, first+"; "+ins+"; "+out)
	}
	c := join(from)
	return api.Swap{Width: c.Width, From: c, To: join(to)}
}

// swaps returns valid swaps.
func swaps(t *testing.T) []api.Swap {
	t.Helper()
	l := []api.Swap{
		swap(t, "width 8 regs 2", "mul r1 r0 r0; sub r1 r1 r1", "movi r1 0", "out r1"),
		swap(t, "width 8 regs 2", "div r1 r0 r0", "eq r0 r0 r0; mov r1 r0", "out r1"),
		swap(t, "width 4 regs 2", "neg r1 r0; neg r1 r1", "mov r1 r0", "out r1"),
		swap(t, "width 4 regs 2", "neg r1 r0; neg r0 r1", "neg r1 r0", "out r0 r1"),
		swap(t, "width 4 regs 1", "not r0 r0; not r0 r0", "", "out r0"),
		swap(t, "width 4 regs 2", "add r1 r0 r0; add r1 r1 r1; add r1 r1 r1; add r1 r1 r1", "movi r1 0", "out r1"),
		swap(t, "width 4 regs 3", "mul r2 r0 r1; mul r2 r2 r1; mov r2 r2; mov r2 r2", "mul r0 r0 r1; mov r2 r0; mul r2 r2 r1", "out r2"),
	}
	for i, s := range l {
		if e := learned.Valid(s); e != api.OK {
			t.Fatal(i, e)
		}
	}
	return l
}

// checkAt checks the program that At returns, which is an empty text if it has to fail.
func checkAt(t *testing.T, c api.Code, l []api.Swap, from, n int, want string) {
	t.Helper()
	before := isa.Copy(c)
	d, ok := peephole.At(c, l, from, n)
	if want == "" {
		want = text(c)
		if ok || !isa.Same(c, d) {
			t.Errorf("%s at %d, %d: %s", text(c), from, n, text(d))
		}
	} else if !ok || text(d) != want {
		t.Errorf("%s at %d, %d: %s, %v, not %s", text(c), from, n, text(d), ok, want)
	}
	if !isa.Same(c, before) {
		t.Errorf("%s has become %s", text(before), text(c))
	}
}

// TestExamples checks the examples of chapter 56.
func TestExamples(t *testing.T) {
	l := swaps(t)
	checkAt(t, code(t, "width 8 regs 6; mul r5 r2 r2; sub r5 r5 r5; out r5"), l, 0, 2, "width 8 regs 6; movi r5 0; out r5")
	checkAt(t, code(t, "width 8 regs 2; div r1 r0 r0; out r1"), l, 0, 1, "width 8 regs 2; eq r0 r0 r0; mov r1 r0; out r1")
	checkAt(t, code(t, "width 8 regs 2; div r1 r0 r0; out r0 r1"), l, 0, 1, "")
	checkAt(t, code(t, "width 8 regs 2; div r1 r0 r0; add r1 r0 r1; out r1"), l, 0, 1, "")
	checkAt(t, code(t, "width 8 regs 2; div r1 r0 r0; movi r0 3; add r1 r0 r1; out r1"), l, 0, 1, "width 8 regs 2; eq r0 r0 r0; mov r1 r0; movi r0 3; add r1 r0 r1; out r1")
}

// TestAt checks P56.1.
func TestAt(t *testing.T) {
	l := swaps(t)
	twice := code(t, "width 4 regs 5; movi r3 7; neg r4 r2; neg r4 r4; sub r0 r4 r3; out r0")
	checkAt(t, twice, l, 1, 2, "width 4 regs 5; movi r3 7; mov r4 r2; sub r0 r4 r3; out r0")
	// other windows
	for from := -2; from <= 6; from++ {
		for n := -2; n <= 6; n++ {
			if from != 1 || n != 2 {
				checkAt(t, twice, l, from, n, "")
			}
		}
	}
	for _, w := range [][2]int{{math.MinInt, 2}, {math.MaxInt, 2}, {1, math.MaxInt}, {1, math.MinInt}, {math.MaxInt, math.MaxInt}, {math.MinInt, math.MaxInt}, {math.MinInt, math.MinInt}} {
		checkAt(t, twice, l, w[0], w[1], "")
	}
	checkAt(t, twice, nil, 1, 2, "")
	checkAt(t, twice, l[:2], 1, 2, "")
	checkAt(t, twice, l[3:], 1, 2, "")
	// the Width
	wide := isa.Copy(twice)
	wide.Width = 5
	checkAt(t, wide, l, 1, 2, "")
	// What is live after the window decides which swap it matches.
	checkAt(t, code(t, "width 4 regs 3; neg r2 r0; neg r0 r2; out r0 r2"), l, 0, 2, "width 4 regs 3; neg r2 r0; out r0 r2")
	checkAt(t, code(t, "width 4 regs 3; neg r2 r0; neg r0 r2; add r0 r0 r2; out r0"), l, 0, 2, "width 4 regs 3; neg r2 r0; add r0 r0 r2; out r0")
	checkAt(t, code(t, "width 4 regs 3; neg r2 r0; neg r0 r2; out r0"), l, 0, 2, "")
	checkAt(t, code(t, "width 4 regs 3; neg r2 r0; neg r2 r2; out r0"), l, 0, 2, "") // nothing is live
	checkAt(t, code(t, "width 4 regs 3; neg r2 r0; neg r2 r2; out r2 r0"), l, 0, 2, "width 4 regs 3; mov r2 r0; out r2 r0")
	// The order of Out counts in the canonical form: here it is r1 r0.
	checkAt(t, code(t, "width 4 regs 3; neg r0 r2; neg r2 r0; out r0 r2"), l, 0, 2, "")
	// To may be empty, or define a register that is not live.
	checkAt(t, code(t, "width 4 regs 8; not r7 r7; not r7 r7; out r7"), l, 0, 2, "width 4 regs 8; out r7")
	triple := code(t, "width 4 regs 4; mul r3 r2 r1; mul r3 r3 r1; mov r3 r3; mov r3 r3; out r3")
	checkAt(t, triple, l, 0, 4, "width 4 regs 4; mul r2 r2 r1; mov r3 r2; mul r3 r3 r1; out r3")
	triple.Out = []int{3, 1}
	checkAt(t, triple, l, 0, 4, "width 4 regs 4; mul r2 r2 r1; mov r3 r2; mul r3 r3 r1; out r3 r1")
	triple.Out = []int{2, 3}
	checkAt(t, triple, l, 0, 4, "")
}

// TestAtInvalid checks P56.1 for programs and swaps that are not valid.
func TestAtInvalid(t *testing.T) {
	good := swaps(t)[4]
	c := code(t, "width 4 regs 2; not r1 r1; not r1 r1; out r1")
	checkAt(t, c, []api.Swap{good}, 0, 2, "width 4 regs 2; out r1")
	for i, change := range []func(s *api.Swap){
		func(s *api.Swap) { s.Width = 5 }, func(s *api.Swap) { s.From.Width = 5 }, func(s *api.Swap) { s.To.Width = 5 }, func(s *api.Swap) { s.To.Regs = 2 }, func(s *api.Swap) { s.To.Regs = 0 }, func(s *api.Swap) { s.To.Regs = 9 }, func(s *api.Swap) { s.From.Regs = 2 }, func(s *api.Swap) { s.To.Out = nil }, func(s *api.Swap) { s.From.Out = nil },
		func(s *api.Swap) { s.To.Ins = s.From.Ins }, func(s *api.Swap) { s.To.Ins = []api.Ins{{Op: api.MMul}} }, func(s *api.Swap) { s.To.Ins = s.From.Ins[:1] }, func(s *api.Swap) { s.To.Ins = []api.Ins{{Op: 99}} }, func(s *api.Swap) { s.To.Ins = []api.Ins{{Op: api.MMov, A: 1}} }, func(s *api.Swap) { s.To.Ins = []api.Ins{{Op: api.MMovi}} }, func(s *api.Swap) { s.From.Ins = nil }, func(s *api.Swap) { *s = api.Swap{} }, func(s *api.Swap) { s.From = c },
	} {
		s := api.Swap{Width: good.Width, From: isa.Copy(good.From), To: isa.Copy(good.To)}
		change(&s)
		if learned.Valid(s) == api.OK {
			t.Errorf("change %d leaves the swap valid", i)
		}
		checkAt(t, c, []api.Swap{s}, 0, 2, "")
		// The first swap that the window matches counts, also if it is not valid.
		want := "width 4 regs 2; out r1"
		if s.Width == good.Width && isa.Same(s.From, good.From) {
			want = ""
		}
		checkAt(t, c, []api.Swap{s, good}, 0, 2, want)
		checkAt(t, c, []api.Swap{good, s}, 0, 2, "width 4 regs 2; out r1")
	}
	mov := good
	mov.To = code(t, "width 4 regs 1; mov r0 r0; out r0")
	checkAt(t, c, []api.Swap{mov, good}, 0, 2, "width 4 regs 2; mov r1 r1; out r1")
	// An empty window matches no valid swap.
	empty := api.Swap{Width: 4, From: code(t, "width 4 regs 1; out"), To: code(t, "width 4 regs 1; out")}
	for from := range 3 {
		checkAt(t, c, []api.Swap{empty, good}, from, 0, "")
	}
	// programs that are not valid
	for i, change := range []func(c *api.Code){
		func(c *api.Code) { c.Width = 65 }, func(c *api.Code) { c.Regs = 9 }, func(c *api.Code) { c.Regs = 1 }, func(c *api.Code) { c.Out = []int{1, 1} }, func(c *api.Code) { c.Ins = append(c.Ins, api.Ins{Op: 99}) }, func(c *api.Code) { c.Ins = slices.Repeat(c.Ins, 129) },
	} {
		d := isa.Copy(c)
		change(&d)
		checkAt(t, d, []api.Swap{good}, 0, 2, "")
		if e, ok := peephole.Once(d, []api.Swap{good}, 9); ok || !isa.Same(d, e) {
			t.Errorf("change %d: %v", i, e)
		}
		_, want := isa.Check(d)
		if e, n, code := peephole.Run(d, []api.Swap{good}, 9, 9); code != want || want == api.OK || n != 0 || !isa.Same(e, api.Code{}) {
			t.Errorf("change %d: %v, %d, %d", i, e, n, code)
		}
	}
	if d, ok := peephole.At(api.Code{}, nil, 0, 0); ok || !isa.Same(d, api.Code{}) {
		t.Error(d)
	}
}

// TestAtLong checks that a result has at most MaxCode instructions (P56.1).
func TestAtLong(t *testing.T) {
	l := swaps(t)
	for _, n := range []int{254, 255, 256} {
		c := code(t, "width 8 regs 3; div r1 r0 r0; out r1 r2")
		for len(c.Ins) < n {
			c.Ins = append(c.Ins, api.Ins{Op: api.MAdd, Dst: 2, A: 2, B: 1})
		}
		d, ok := peephole.At(c, l, 0, 1)
		if ok != (n < 256) || !ok && !isa.Same(c, d) || ok && (len(d.Ins) != n+1 || d.Ins[0].Op != api.MEq) {
			t.Error(n, ok, len(d.Ins))
		}
	}
}

// TestLongest checks Longest (P56.2).
func TestLongest(t *testing.T) {
	l := swaps(t)
	if n := peephole.Longest(l); n != 4 {
		t.Error(n)
	}
	if n := peephole.Longest(l[:3]); n != 2 {
		t.Error(n)
	}
	if n := peephole.Longest(nil); n != 0 {
		t.Error(n)
	}
	// Only From counts, and the swaps need not be valid.
	if n := peephole.Longest([]api.Swap{{From: api.Code{Ins: make([]api.Ins, 300)}}, {To: api.Code{Ins: make([]api.Ins, 400)}}}); n != 300 {
		t.Error(n)
	}
}

// TestOnce checks Once (P56.2).
func TestOnce(t *testing.T) {
	one := swap(t, "width 4 regs 1", "mul r0 r0 r0", "nop; nop", "out")
	two := swap(t, "width 4 regs 2", "mul r0 r0 r0; mul r1 r1 r1", "nop", "out")
	nots := swaps(t)[4]
	long := api.Swap{From: api.Code{Ins: make([]api.Ins, 300)}}
	wrong := swap(t, "width 4 regs 1", "mul r0 r0 r0", "mul r0 r0 r0", "out")
	three := "width 4 regs 3; mul r2 r2 r2; mul r1 r1 r1; mul r0 r0 r0; out"
	for i, x := range []struct {
		c    string
		l    []api.Swap
		most int
		want string
	}{
		// the greatest length at a start
		{three, []api.Swap{one, two}, 2, "width 4 regs 3; nop; mul r0 r0 r0; out"}, {three, []api.Swap{two, one, long}, math.MaxInt, "width 4 regs 3; nop; mul r0 r0 r0; out"}, {three, []api.Swap{one, two}, 1, "width 4 regs 3; nop; nop; mul r1 r1 r1; mul r0 r0 r0; out"}, {three, []api.Swap{one}, 2, "width 4 regs 3; nop; nop; mul r1 r1 r1; mul r0 r0 r0; out"},
		// the first start
		{"width 4 regs 3; mul r2 r2 r2; not r1 r1; not r1 r1; out r1", []api.Swap{nots, one}, 2, "width 4 regs 3; nop; nop; not r1 r1; not r1 r1; out r1"}, {"width 4 regs 3; movi r1 1; mul r0 r0 r0; mul r2 r2 r2; out", []api.Swap{one, two}, 4, "width 4 regs 3; movi r1 1; nop; out"}, {"width 4 regs 3; mul r2 r2 r2; mul r2 r2 r2; out", []api.Swap{one, two}, 2, "width 4 regs 3; mul r2 r2 r2; nop; nop; out"},
		// no replacement
		{three, []api.Swap{one, two}, 0, ""}, {three, []api.Swap{one, two}, -1, ""}, {three, []api.Swap{one, two}, math.MinInt, ""}, {three, nil, 9, ""}, {three, []api.Swap{two}, 1, ""}, {three, []api.Swap{nots, long}, 9, ""}, {three, []api.Swap{wrong, one}, 9, ""}, {"width 4 regs 3; mul r2 r2 r2; out", []api.Swap{two}, 2, ""}, {"width 4 regs 3; mul r2 r2 r2; out r2", []api.Swap{one}, 1, ""}, {"width 4 regs 3; out r2", []api.Swap{one}, 1, ""},
	} {
		c := code(t, x.c)
		want := x.want
		if want == "" {
			want = x.c
		}
		if d, ok := peephole.Once(c, x.l, x.most); ok != (x.want != "") || text(d) != want || text(c) != x.c {
			t.Errorf("case %d: %s, %v", i, text(d), ok)
		}
	}
	if d, ok := peephole.Once(api.Code{}, []api.Swap{one}, 9); ok || !isa.Same(d, api.Code{}) {
		t.Error(d)
	}
}

// TestRun checks P56.3.
func TestRun(t *testing.T) {
	l := swaps(t)
	for i, x := range []struct {
		c, want      string
		most, rounds int
		made         int
	}{
		{"width 4 regs 2; not r0 r0; not r1 r1; not r1 r1; not r0 r0; out r0 r1", "width 4 regs 2; out r0 r1", 2, 9, 2}, {"width 4 regs 2; not r0 r0; not r1 r1; not r1 r1; not r0 r0; out r0 r1", "width 4 regs 2; not r0 r0; not r0 r0; out r0 r1", 2, 1, 1}, {"width 4 regs 2; not r0 r0; not r1 r1; not r1 r1; not r0 r0; out r0 r1", "width 4 regs 2; out r0 r1", 99, math.MaxInt, 2},
		{"width 4 regs 2; not r0 r0; not r1 r1; not r1 r1; not r0 r0; out r0 r1", "", 2, 0, 0}, {"width 4 regs 2; not r0 r0; not r1 r1; not r1 r1; not r0 r0; out r0 r1", "", 2, math.MinInt, 0}, {"width 4 regs 2; not r0 r0; not r1 r1; not r1 r1; not r0 r0; out r0 r1", "", 1, 9, 0},
		// Dead instructions are removed after each replacement, and only then.
		{"width 4 regs 3; add r2 r0 r0; nop; neg r1 r0; neg r1 r1; out r1", "width 4 regs 3; mov r1 r0; out r1", 4, 9, 1}, {"width 4 regs 3; add r2 r0 r0; nop; neg r1 r0; out r1", "", 4, 9, 0}, {"width 4 regs 3; nop; neg r1 r0; neg r1 r1; out r1", "", 4, 0, 0},
		{"width 4 regs 3; mul r0 r1 r1; add r2 r0 r0; add r2 r2 r2; add r2 r2 r2; add r2 r2 r2; out r2", "width 4 regs 3; movi r2 0; out r2", 4, 9, 1},
		// A replacement can allow another one before it, here because r0 is not used any more after it, or only after what is removed.
		{"width 8 regs 3; div r1 r0 r0; mul r2 r0 r0; sub r2 r2 r2; out r1 r2", "width 8 regs 3; eq r0 r0 r0; mov r1 r0; movi r2 0; out r1 r2", 2, 9, 2}, {"width 8 regs 3; div r1 r0 r0; mul r2 r0 r0; sub r2 r2 r2; out r1 r2", "width 8 regs 3; div r1 r0 r0; movi r2 0; out r1 r2", 2, 1, 1},
		{"width 8 regs 4; div r1 r0 r0; add r3 r0 r0; mul r2 r1 r1; sub r2 r2 r2; out r1 r2", "width 8 regs 4; eq r0 r0 r0; mov r1 r0; movi r2 0; out r1 r2", 2, 9, 2}, {"width 8 regs 4; div r1 r0 r0; add r3 r0 r0; mul r2 r1 r1; sub r2 r2 r2; out r1 r2", "width 8 regs 4; div r1 r0 r0; movi r2 0; out r1 r2", 2, 1, 1},
	} {
		c := code(t, x.c)
		want := x.want
		if want == "" {
			want = x.c
		}
		d, made, e := peephole.Run(c, l, x.most, x.rounds)
		if e != api.OK || made != x.made || text(d) != want || text(c) != x.c {
			t.Errorf("case %d: %s, %d, %d", i, text(d), made, e)
		}
	}
}

// TestRounds checks that a run makes at most 1000 replacements (P56.3).
func TestRounds(t *testing.T) {
	l := []api.Swap{
		swap(t, "width 1 regs 1", "div r0 r0 r0", "mul r0 r0 r0; mul r0 r0 r0; mul r0 r0 r0", "out r0"),
		swap(t, "width 1 regs 1", "mul r0 r0 r0", "and r0 r0 r0", "out r0"),
		swap(t, "width 1 regs 1", "and r0 r0 r0", "", "out r0"),
	}
	divs := func(n int) api.Code {
		return api.Code{Width: 1, Regs: 1, Ins: slices.Repeat([]api.Ins{{Op: api.MDiv}}, n), Out: []int{0}}
	}
	// Seven replacements remove a div. After 994 of them, the next div has three products, of which six more remove two.
	want := divs(98)
	want.Ins[0].Op = api.MAnd
	for _, rounds := range []int{1000, 1001, math.MaxInt} {
		if d, made, e := peephole.Run(divs(240), l, 1, rounds); made != 1000 || e != api.OK || !isa.Same(d, want) {
			t.Error(rounds, text(d), made, e)
		}
	}
	want.Ins[0].Op = api.MMul
	if d, made, e := peephole.Run(divs(240), l, 1, 999); made != 999 || e != api.OK || !isa.Same(d, want) {
		t.Error(text(d), made, e)
	}
	if d, made, e := peephole.Run(divs(100), l, 1, 1000); made != 700 || e != api.OK || !isa.Same(d, divs(0)) {
		t.Error(text(d), made, e)
	}
}

// TestMemory checks that results share no memory with arguments.
func TestMemory(t *testing.T) {
	l := swaps(t)
	source := "width 8 regs 3; movi r2 1; mul r1 r0 r0; sub r1 r1 r1; out r1 r2"
	c := code(t, source)
	var results []api.Code
	for _, swaps := range [][]api.Swap{l, nil} {
		d, _ := peephole.At(c, swaps, 1, 2)
		e, _ := peephole.Once(c, swaps, 2)
		f, _, _ := peephole.Run(c, swaps, 2, 2)
		g, _, _ := peephole.Run(c, swaps, 2, 0)
		results = append(results, d, e, f, g)
	}
	for i, d := range results {
		want := "width 8 regs 3; movi r2 1; movi r1 0; out r1 r2"
		if i > 2 {
			want = source
		}
		if text(d) != want {
			t.Errorf("result %d: %s", i, text(d))
		}
		for k := range d.Ins {
			d.Ins[k] = api.Ins{Op: 99}
		}
		for k := range d.Out {
			d.Out[k] = 99
		}
	}
	if text(c) != source {
		t.Error(text(c))
	}
	for i, s := range swaps(t) {
		if !isa.Same(s.From, l[i].From) || !isa.Same(s.To, l[i].To) {
			t.Errorf("swap %d is changed", i)
		}
	}
}
