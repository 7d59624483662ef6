package learned_test

import (
	"math/rand/v2"
	"slices"
	"testing"

	"saturate/api"
	"saturate/isa"
	"saturate/learned"
	"saturate/live"
	"saturate/superopt"
)

// swap returns a swap of two programs.
func swap(t *testing.T, from, to string) api.Swap {
	t.Helper()
	c := code(t, from)
	return api.Swap{Width: c.Width, From: c, To: code(t, to)}
}

// same reports whether two swaps are equal in all parts.
func same(a, b api.Swap) bool {
	return a.Width == b.Width && isa.Same(a.From, b.From) && isa.Same(a.To, b.To)
}

// valid returns valid swaps in increasing order.
func valid(t *testing.T) []api.Swap {
	t.Helper()
	return []api.Swap{
		swap(t, "width 2 regs 1\nnot r0 r0\nnot r0 r0\nout r0\n", "width 2 regs 1\nmov r0 r0\nout r0\n"),
		swap(t, "width 2 regs 1\nnot r0 r0\nnot r0 r0\nout r0\n", "width 2 regs 1\nout r0\n"),
		swap(t, "width 2 regs 2\nmov r1 r0\nsub r1 r1 r0\nout r1\n", "width 2 regs 2\nmovi r1 0\nout r1\n"),
		swap(t, "width 3 regs 1\nmul r0 r0 r0\nout\n", "width 3 regs 1\nout\n"),
		swap(t, "width 10 regs 1\nnot r0 r0\nnot r0 r0\nout r0\n", "width 10 regs 1\nout r0\n"), // its text is less than those before
		swap(t, "width 16 regs 2\nrem r1 r0 r0\nout r1\n", "width 16 regs 2\nmovi r1 0\nout r1\n"),
	}
}

// TestValid checks Valid (P55.2).
func TestValid(t *testing.T) {
	for i, s := range valid(t) {
		if e := learned.Valid(s); e != api.OK {
			t.Errorf("swap %d: %d", i, e)
		}
	}
	// An empty program has the register 0.
	if e := learned.Valid(swap(t, "width 64 regs 1\nmovi r0 9\nout\n", "width 64 regs 1\nnop\nout\n")); e != api.OK {
		t.Error(e)
	}
}

// TestValidErrors checks the errors of Valid and their order (P55.2).
func TestValidErrors(t *testing.T) {
	good := valid(t)[0]
	from, to := good.From, good.To
	other := func(c api.Code, change func(c *api.Code)) api.Code {
		c = isa.Copy(c)
		change(&c)
		return c
	}
	wide := func(c *api.Code) { c.Width = 3 }
	for i, x := range []struct {
		s    api.Swap
		want api.Errno
	}{
		{api.Swap{Width: 3, From: from, To: to}, api.ErrWidth}, {api.Swap{Width: 2, From: other(from, wide), To: to}, api.ErrWidth}, {api.Swap{Width: 2, From: from, To: other(to, wide)}, api.ErrWidth}, {api.Swap{Width: 2, From: other(from, wide), To: other(to, wide)}, api.ErrWidth},
		{api.Swap{}, api.ErrWidth}, {api.Swap{Width: 1}, api.ErrWidth}, {api.Swap{Width: 65, From: api.Code{Width: 65}, To: api.Code{Width: 65}}, api.ErrWidth},
		// The width comes before the errors of the programs, and From before To.
		{api.Swap{Width: 3, From: api.Code{Width: 2, Regs: 9}, To: to}, api.ErrWidth}, {api.Swap{Width: 2, From: api.Code{Width: 2, Regs: 9}, To: api.Code{Width: 2, Regs: 1, Ins: []api.Ins{{Op: 99}}}}, api.ErrReg}, {api.Swap{Width: 2, From: api.Code{Width: 2, Regs: 1, Ins: []api.Ins{{Op: 99}}}, To: api.Code{Width: 2, Regs: 9}}, api.ErrOp},
		{api.Swap{Width: 2, From: from, To: api.Code{Width: 2, Regs: 1, Out: []int{0, 0}}}, api.ErrDup},
		// Both programs come before the form.
		{api.Swap{Width: 2, From: code(t, "width 2 regs 2\nnot r1 r1\nout r1\n"), To: api.Code{Width: 2, Regs: 9}}, api.ErrReg},
		{swap(t, "width 2 regs 2\nnot r1 r1\nnot r1 r1\nout r1\n", "width 2 regs 2\nout r1\n"), api.ErrForm}, {swap(t, "width 2 regs 2\nnot r0 r0\nnot r0 r0\nout r0\n", "width 2 regs 2\nout r0\n"), api.ErrForm}, {swap(t, "width 2 regs 2\nsub r0 r1 r1\nout r0\n", "width 2 regs 2\nmovi r0 0\nout r0\n"), api.ErrForm}, {swap(t, "width 2 regs 2\nmul r0 r0 r0\nout\n", "width 2 regs 2\nout\n"), api.ErrForm},
		// The form comes before the rest.
		{swap(t, "width 2 regs 2\nnot r1 r1\nout r1\n", "width 2 regs 1\nneg r0 r0\nout r0\n"), api.ErrForm},
		{swap(t, "width 2 regs 1\nmul r0 r0 r0\nout r0\n", "width 2 regs 2\nmul r0 r0 r0\nout r0\n"), api.ErrArg}, {swap(t, "width 2 regs 1\nnot r0 r0\nnot r0 r0\nout r0\n", "width 2 regs 2\nout r0\n"), api.ErrArg}, {swap(t, "width 2 regs 1\nnot r0 r0\nout r0\n", "width 2 regs 1\nout\n"), api.ErrArg}, {swap(t, "width 2 regs 1\nnot r0 r0\nout\n", "width 2 regs 1\nout r0\n"), api.ErrArg}, {swap(t, "width 2 regs 2\nnot r0 r0\nnot r1 r1\nnot r0 r0\nnot r1 r1\nout r0 r1\n", "width 2 regs 2\nout r1 r0\n"), api.ErrArg},
		{swap(t, "width 2 regs 1\nnot r0 r0\nout r0\n", "width 2 regs 1\nneg r0 r0\nout r0\n"), api.ErrArg}, {swap(t, "width 2 regs 1\nnot r0 r0\nout r0\n", "width 2 regs 1\nmul r0 r0 r0\nout r0\n"), api.ErrArg}, {swap(t, "width 2 regs 1\nnop\nout r0\n", "width 2 regs 1\nout r0\n"), api.ErrArg},
		// The cost comes before the states.
		{swap(t, "width 17 regs 1\nnot r0 r0\nout r0\n", "width 17 regs 1\nneg r0 r0\nout r0\n"), api.ErrArg}, {swap(t, "width 17 regs 1\nneg r0 r0\nneg r0 r0\nout r0\n", "width 17 regs 1\nout r0\n"), api.ErrLong}, {swap(t, "width 16 regs 2\nmul r0 r0 r1\nout r0\n", "width 16 regs 2\nout r0\n"), api.ErrLong},
		{swap(t, "width 2 regs 1\nnot r0 r0\nout r0\n", "width 2 regs 1\nout r0\n"), api.ErrUnsound}, {swap(t, "width 2 regs 1\nmul r0 r0 r0\nout r0\n", "width 2 regs 1\nrem r0 r0 r0\nout r0\n"), api.ErrArg}, {swap(t, "width 2 regs 2\nmovi r0 0\nmul r1 r0 r0\ndiv r1 r1 r1\nout r1\n", "width 2 regs 2\nout r1\n"), api.OK},
		{swap(t, "width 2 regs 1\nmul r0 r0 r0\nmul r0 r0 r0\nmul r0 r0 r0\nmul r0 r0 r0\nmul r0 r0 r0\nmovi r0 1\nout r0\n", "width 2 regs 1\ndiv r0 r0 r0\nout r0\n"), api.ErrUnsound},
	} {
		if e := learned.Valid(x.s); e != x.want {
			t.Errorf("case %d: %d, not %d", i, e, x.want)
		}
	}
}

// TestCompare checks Compare (P55.2): each of these swaps is less than the next one.
func TestCompare(t *testing.T) {
	l := valid(t)
	l = append([]api.Swap{{Width: -1, From: l[5].From}, {}, {Width: 2, From: api.Code{Width: 1}, To: l[3].To}}, l...)
	l = append(l, api.Swap{Width: 99}, api.Swap{Width: 99, To: api.Code{Regs: 1}})
	for i, a := range l {
		for k, b := range l {
			want := 0
			switch {
			case i < k:
				want = -1
			case i > k:
				want = 1
			}
			if order := learned.Compare(a, b); order != want {
				t.Errorf("Compare of %d and %d is %d", i, k, order)
			}
		}
	}
}

// TestInsert checks Insert (P55.2).
func TestInsert(t *testing.T) {
	all := valid(t)
	list := slices.Delete(slices.Clone(all), 1, 2) // it has the same From as the first one
	r := rand.New(rand.NewPCG(55, 2))
	for range 30 {
		var l []api.Swap
		for _, k := range r.Perm(len(list)) {
			next, ok := learned.Insert(l, list[k])
			again, twice := learned.Insert(next, list[k])
			if !ok || twice || len(next) != len(l)+1 || !slices.EqualFunc(again, next, same) {
				t.Fatal(next, ok, again, twice)
			}
			l = next
		}
		if !slices.EqualFunc(l, list, same) {
			t.Fatal(l)
		}
	}
	// A swap with the same From is not inserted, whatever its To and the order are.
	for _, s := range all[:2] {
		for _, l := range [][]api.Swap{{all[0]}, {all[1]}, {all[4], all[1], all[0]}} {
			if again, ok := learned.Insert(l, s); ok || !slices.EqualFunc(again, l, same) {
				t.Error(again, ok)
			}
		}
	}
	// The list need not be ordered: the swap comes before the first greater one. Neither need it be valid.
	odd := api.Swap{Width: 7, From: all[1].From}
	for _, x := range []struct{ list, want []api.Swap }{
		{[]api.Swap{all[5], all[0], all[4]}, []api.Swap{all[3], all[5], all[0], all[4]}},
		{[]api.Swap{all[0], all[5], all[0]}, []api.Swap{all[0], all[3], all[5], all[0]}},
		{[]api.Swap{all[2], all[0], all[1]}, []api.Swap{all[2], all[0], all[1], all[3]}},
		{[]api.Swap{{}, odd}, []api.Swap{{}, all[3], odd}},
	} {
		if l, ok := learned.Insert(x.list, all[3]); !ok || !slices.EqualFunc(l, x.want, same) {
			t.Error(l, ok)
		}
	}
	// The same From counts with another Width only in a swap that is not valid.
	if l, ok := learned.Insert([]api.Swap{odd}, all[1]); !ok || !slices.EqualFunc(l, []api.Swap{all[1], odd}, same) {
		t.Error(l, ok)
	}
	bad := swap(t, "width 2 regs 1\nnot r0 r0\nout r0\n", "width 2 regs 1\nout r0\n")
	for _, l := range [][]api.Swap{nil, {all[0]}, {all[5], all[0], odd}} {
		for _, s := range []api.Swap{bad, {}, odd} {
			if again, ok := learned.Insert(l, s); ok || !slices.EqualFunc(again, l, same) {
				t.Error(again, ok)
			}
		}
	}
}

// TestFind checks Find (P55.2).
func TestFind(t *testing.T) {
	all := valid(t)
	odd := api.Swap{Width: 5, From: all[2].From, To: all[5].To} // not valid
	l := []api.Swap{odd, all[4], all[1], all[0], all[2], all[3]}
	for i, x := range []struct {
		text string
		want api.Swap
	}{
		{"width 2 regs 4\nmov r0 r3\nsub r0 r0 r3\nout r0\n", all[2]}, {"width 2 regs 2\nmov r1 r0\nsub r1 r1 r0\nout r1\n", all[2]}, {"width 2 regs 8\nnot r7 r7\nnot r7 r7\nout r7\n", all[1]}, {"width 10 regs 3\nnot r1 r1\nnot r1 r1\nout r1\n", all[4]}, {"width 3 regs 3\nmul r1 r1 r1\nout\n", all[3]},
		{"width 3 regs 4\nmov r0 r3\nsub r0 r0 r3\nout r0\n", api.Swap{}}, {"width 5 regs 2\nmov r1 r0\nsub r1 r1 r0\nout r1\n", api.Swap{}}, {"width 2 regs 4\nmov r0 r3\nsub r0 r0 r3\nout r3\n", api.Swap{}}, {"width 2 regs 4\nmov r0 r3\nsub r0 r0 r3\nout\n", api.Swap{}}, {"width 2 regs 4\nmov r0 r3\nsub r0 r3 r0\nout r0\n", api.Swap{}}, {"width 2 regs 1\nout r0\n", api.Swap{}}, {"width 16 regs 2\nrem r1 r0 r0\nout r1\n", api.Swap{}},
	} {
		if s, ok := learned.Find(l, code(t, x.text)); !same(s, x.want) || ok != (x.want.Width > 0) {
			t.Errorf("case %d: %v, %v", i, s, ok)
		}
	}
	// The swaps need not be valid.
	odd = api.Swap{Width: 2, From: all[2].From}
	if s, ok := learned.Find([]api.Swap{odd, all[2]}, all[2].From); !ok || !same(s, odd) {
		t.Error(s, ok)
	}
	for want, c := range invalid() {
		if s, ok := learned.Find([]api.Swap{{Width: c.Width, From: c}, {}}, c); ok || !same(s, api.Swap{}) {
			t.Errorf("error %d: %v", want, s)
		}
	}
	if s, ok := learned.Find(nil, all[0].From); ok || !same(s, api.Swap{}) {
		t.Error(s)
	}
}

// TestSwapMemory checks general rule 5 for Insert and Find.
func TestSwapMemory(t *testing.T) {
	all := valid(t)
	spoil := func(l ...api.Swap) {
		for _, s := range l {
			for _, c := range []api.Code{s.From, s.To} {
				for k := range c.Ins {
					c.Ins[k] = api.Ins{}
				}
				for k := range c.Out {
					c.Out[k] = 9
				}
			}
		}
	}
	l := make([]api.Swap, 2, 10)
	copy(l, all[3:5])
	for _, s := range []api.Swap{all[0], all[3], {}} {
		next, _ := learned.Insert(l, s)
		spoil(next...)
	}
	found, _ := learned.Find(l, all[3].From)
	spoil(found)
	if want := valid(t); !slices.EqualFunc(all, want, same) || !slices.EqualFunc(l, want[3:5], same) || !same(l[:3][2], api.Swap{}) {
		t.Error("a result shares memory with an argument")
	}
}

// naiveLearn does what P55.3 describes for valid arguments.
func naiveLearn(c api.Code, n int, s api.Space) []api.Swap {
	var l []api.Swap
	for length := 1; length <= n; length++ {
		for from := 0; from+length <= len(c.Ins); from++ {
			w, _ := live.Window(c, from, length)
			if len(w.Out) == 0 {
				continue
			}
			w, _, _ = learned.Canon(w)
			if d, _, e := superopt.Search(w, s); e == api.OK {
				l, _ = learned.Insert(l, api.Swap{Width: c.Width, From: w, To: d})
			}
		}
	}
	return l
}

// TestLearn checks P55.3 and P55.5 for random programs.
func TestLearn(t *testing.T) {
	r := rand.New(rand.NewPCG(55, 3))
	count, most := 0, 0
	for range 200 {
		c := randomCode(r, 1+r.IntN(3), 1+r.IntN(4), r.IntN(9))
		c.Out = r.Perm(c.Regs)
		s := api.Space{Imms: []uint64{0, 1}, Most: r.IntN(3), Fuel: 1000}
		for _, op := range r.Perm(20)[:r.IntN(5)] {
			s.Ops = append(s.Ops, api.MOp(op))
		}
		n := 1 + r.IntN(4)
		before := isa.Print(c)
		l, e := learned.Learn(c, n, s)
		if want := naiveLearn(c, n, s); e != api.OK || !slices.EqualFunc(l, want, same) || isa.Print(c) != before {
			t.Fatalf("%s: %v, %d, not %v", before, l, e, want)
		}
		for k, x := range l {
			if e := learned.Valid(x); e != api.OK || k > 0 && learned.Compare(l[k-1], x) != -1 {
				t.Fatalf("%v is not valid or not in order", x)
			}
			most = max(most, len(x.From.Ins))
		}
		count += len(l)
		if again, at, e := learned.Parse(learned.Print(l)); !slices.EqualFunc(again, l, same) || at != 0 || e != api.OK {
			t.Fatalf("%q: %d, %d", learned.Print(l), at, e)
		}
	}
	if count < 200 || most != 4 {
		t.Error(count, most)
	}
}

// TestLearnWindows checks which windows are examined (P55.3).
func TestLearnWindows(t *testing.T) {
	for i, x := range []struct {
		text string
		n    int
		want string
	}{
		{"width 2 regs 1\nnot r0 r0\nnot r0 r0\nout r0\n", 1, ""},
		{"width 2 regs 1\nnot r0 r0\nnot r0 r0\nout r0\n", 2, "swap\nwidth 2 regs 1\nnot r0 r0\nnot r0 r0\nout r0\nto\nwidth 2 regs 1\nout r0\n"},
		{"width 2 regs 1\nnot r0 r0\nnot r0 r0\nout r0\n", 4, "swap\nwidth 2 regs 1\nnot r0 r0\nnot r0 r0\nout r0\nto\nwidth 2 regs 1\nout r0\n"},
		{"width 2 regs 8\nmov r5 r5\nmov r4 r4\nout r4 r5\n", 1, "swap\nwidth 2 regs 1\nmov r0 r0\nout r0\nto\nwidth 2 regs 1\nout r0\n"}, // twice the same
		{"width 2 regs 8\nmov r5 r5\nmov r4 r4\nout r5\n", 2, "swap\nwidth 2 regs 1\nmov r0 r0\nout r0\nto\nwidth 2 regs 1\nout r0\nswap\nwidth 2 regs 2\nmov r0 r0\nmov r1 r1\nout r0\nto\nwidth 2 regs 2\nout r0\n"},
		{"width 2 regs 2\nmul r0 r0 r0\nmul r1 r1 r1\nout\n", 4, ""}, // nothing is live
		{"width 20 regs 1\nmov r0 r0\nout r0\n", 4, ""},              // there are too many states
		{"width 2 regs 1\nout r0\n", 4, ""},
	} {
		if l, e := learned.Learn(code(t, x.text), x.n, api.Space{Fuel: 1}); learned.Print(l) != x.want || e != api.OK {
			t.Errorf("case %d: %q, %d", i, learned.Print(l), e)
		}
	}
}

// TestLearnErrors checks the errors of Learn and their order (P55.3).
func TestLearnErrors(t *testing.T) {
	good := code(t, "width 2 regs 1\nnot r0 r0\nout r0\n")
	for i, x := range []struct {
		s    api.Space
		n    int
		want api.Errno
	}{
		{api.Space{}, 0, api.ErrRange}, {api.Space{}, 5, api.ErrRange}, {api.Space{}, -1, api.ErrRange}, {api.Space{}, 1, api.OK}, {api.Space{}, 4, api.OK},
		{api.Space{Ops: []api.MOp{20}}, 5, api.ErrOp}, {api.Space{Imms: []uint64{1, 1}}, 0, api.ErrDup}, {api.Space{Most: 9}, 1, api.ErrRange}, {api.Space{Fuel: -1}, 4, api.ErrRange}, {api.Space{Ops: []api.MOp{1, 1}}, 4, api.ErrOp},
	} {
		if l, e := learned.Learn(good, x.n, x.s); len(l) != 0 || e != x.want {
			t.Errorf("case %d: %v, %d", i, l, e)
		}
		for want, c := range invalid() {
			if l, e := learned.Learn(c, x.n, x.s); len(l) != 0 || e != want {
				t.Errorf("case %d: %v, %d, not %d", i, l, e, want)
			}
		}
	}
}
