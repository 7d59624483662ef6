package enum_test

import (
	"math"
	"math/big"
	"slices"
	"testing"

	"saturate/api"
	"saturate/enum"
	"saturate/term"
)

// invalid returns grammars with one error, by that error.
func invalid() map[api.Errno][]api.Grammar {
	named := func(names ...string) api.Grammar {
		g := api.Grammar{}
		for _, name := range names {
			g.Vars = append(g.Vars, api.Var{Name: name, Width: 8})
		}
		return g
	}
	constants := func(l ...api.Word) api.Grammar { return api.Grammar{Vars: vars(8), Consts: l} }
	ops := func(l ...api.Op) api.Grammar { return api.Grammar{Vars: vars(8), Ops: l} }
	return map[api.Errno][]api.Grammar{
		api.ErrName:  {named(""), named("X"), named("x", "1"), named("x", "y", "abcdefghijklmnopq"), named("x", "x", "?")},
		api.ErrDup:   {named("x", "x"), named("x", "y", "x")},
		api.ErrWidth: {{Vars: vars(0)}, {Vars: vars(8, -1)}, {Vars: vars(8, 65)}, {Vars: vars(math.MinInt)}, constants(api.Word{}), constants(api.Word{Width: 8}, api.Word{Width: 65, Val: 3}), constants(api.Word{Width: -8}), constants(api.Word{Width: math.MaxInt})},
		api.ErrRange: {constants(api.Word{Width: 4, Val: 16}), constants(api.Word{Width: 1, Val: 1}, api.Word{Width: 63, Val: 1 << 63}), {Size: -1}, {Size: 13}, {Size: math.MaxInt}, {Most: -1}, {Most: 65537}, {Size: 12, Most: math.MinInt}},
		api.ErrOp:    {ops(0), ops(api.OpVar), ops(api.OpConst), ops(api.OpExtract), ops(api.OpZext), ops(api.OpSext), ops(api.OpHole), ops(api.OpNum), ops(api.OpEval), ops(27), ops(-1), ops(math.MaxInt), ops(api.OpAdd, api.OpAdd), ops(api.OpNot, api.OpAdd, api.OpNot), ops(slices.Repeat([]api.Op{api.OpNot}, 30)...)},
		api.ErrLong:  {{Vars: vars(1, 2, 3, 4, 5, 6, 7, 8, 9)}, constants(make9()...)},
	}
}

// make9 returns one const more than there may be.
func make9() []api.Word {
	return slices.Repeat([]api.Word{{Width: 2, Val: 3}}, 9)
}

// TestCheck checks P44.1, and that nothing is enumerated from a grammar that is not valid.
func TestCheck(t *testing.T) {
	for _, g := range grammars() {
		if e := enum.Check(g); e != api.OK {
			t.Errorf("Check of %v is %d", g, e)
		}
	}
	greatest := api.Grammar{Vars: vars(1, 1, 1, 1, 64, 64, 64, 64), Consts: append(make9()[:7], api.Word{Width: 64, Val: math.MaxUint64}), Ops: operators(), Size: 12, Most: 65536}
	if e := enum.Check(greatest); e != api.OK {
		t.Error("the greatest grammar:", e)
	}
	for want, l := range invalid() {
		for i, g := range l {
			if e := enum.Check(g); e != want {
				t.Errorf("grammar %d with error %d: %d", i, want, e)
			}
			if g.Size == 0 {
				g.Size = 2
			}
			if g.Most == 0 {
				g.Most = 50
			}
			terms, all := enum.Terms(g)
			for range enum.Each(g) {
				t.Errorf("grammar %d with error %d: Each yields a term", i, want)
			}
			if len(terms) > 0 || all || len(enum.Level(g, 1)) > 0 || enum.Count(g, 1, 8) != 0 {
				t.Errorf("grammar %d with error %d has terms", i, want)
			}
		}
	}
}

// TestCheckOrder checks which of several errors P44.1 wants.
func TestCheckOrder(t *testing.T) {
	named, twice := api.Var{Name: "X", Width: 8}, api.Var{Name: "v0", Width: 8}
	tooWide, tooGreat := api.Word{Width: 65, Val: 99}, api.Word{Width: 4, Val: 16}
	for i, c := range []struct {
		g    api.Grammar
		want api.Errno
	}{
		{api.Grammar{Vars: append(vars(0, 0), twice, named), Consts: []api.Word{tooWide}, Ops: []api.Op{0}, Size: 13}, api.ErrName},
		{api.Grammar{Vars: append(vars(0, 0), twice), Consts: []api.Word{tooWide}, Ops: []api.Op{0}, Size: 13}, api.ErrDup},
		{api.Grammar{Vars: vars(1, 2, 3, 4, 5, 6, 7, 8, 0), Consts: []api.Word{tooGreat}, Ops: []api.Op{0}, Size: 13}, api.ErrWidth},
		{api.Grammar{Vars: vars(8), Consts: []api.Word{tooGreat, tooWide}, Ops: []api.Op{0}, Size: 13}, api.ErrWidth},
		{api.Grammar{Vars: vars(8), Consts: append(make9(), tooGreat), Ops: []api.Op{0}}, api.ErrRange},
		{api.Grammar{Vars: vars(1, 2, 3, 4, 5, 6, 7, 8, 9), Ops: []api.Op{api.OpVar}, Size: 13}, api.ErrOp},
		{api.Grammar{Vars: vars(1, 2, 3, 4, 5, 6, 7, 8, 9), Size: -1}, api.ErrRange},
		{api.Grammar{Consts: make9(), Most: -1}, api.ErrRange},
		{api.Grammar{Consts: make([]api.Word, 9)}, api.ErrWidth},
	} {
		if e := enum.Check(c.g); e != c.want {
			t.Errorf("case %d: %d, not %d", i, e, c.want)
		}
	}
}

// TestCanonical checks Canonical of P44.1, for terms that are not valid too.
func TestCanonical(t *testing.T) {
	v := func(name string) api.Term { return api.Term{Op: api.OpVar, Width: 8, Name: name} }
	node := func(args ...api.Term) api.Term { return api.Term{Op: api.OpIte, Args: args} }
	hole := api.Term{Op: api.OpHole, Name: "a"}
	for i, c := range []struct {
		t    api.Term
		want bool
	}{
		{api.Term{}, true}, {v("x"), true}, {v(""), true}, {term.Const(8, 3), true}, {node(), true}, {node(v("a"), v("b")), true}, {node(v("b"), v("a")), false}, {node(v("a"), v("a")), true}, {node(v("a"), v("b"), v("a"), v("b"), v("c"), v("a")), true}, {node(v("a"), v("c"), v("b")), false}, {node(v("a"), v("c"), v("a"), v("b")), false},
		{node(node(v("a"), node(v("b"))), v("c")), true}, {node(node(v("a"), node(v("c"))), v("b")), false}, {node(v("b"), node(node(v("b")), v("a"))), false}, {node(v("b"), hole, v("c")), true}, {node(hole, v("b"), hole), true}, {node(v("a10"), v("a9")), true}, {node(v("a9"), v("a10")), false}, {node(v("a"), v("aa")), true}, {node(v("aa"), v("a")), false}, {node(v(""), v("a")), true}, {node(v("a"), v("")), false}, {node(v("Z"), v("a")), true}, {node(v("a"), v("Z")), false},
		{api.Term{Op: api.OpVar, Name: "b", Args: []api.Term{v("c")}}, true}, {api.Term{Op: api.OpVar, Name: "b", Args: []api.Term{v("a")}}, false}, {node(v("a"), api.Term{Op: api.OpVar, Name: "a", Args: []api.Term{v("b")}}, v("c")), true}, {node(api.Term{Op: api.OpVar, Width: 3, Name: "b"}, v("b"), v("c")), true},
	} {
		if enum.Canonical(c.t) != c.want {
			t.Errorf("case %d: %v", i, c.t)
		}
	}
}

// TestCount checks P44.3 against the terms themselves.
func TestCount(t *testing.T) {
	for i, g := range grammars() {
		levels := naive(g, g.Size)
		g.Size, g.Most = i%2, 0
		for size, level := range levels {
			var counts [66]int64
			for _, u := range level {
				counts[u.Width]++
			}
			for w, want := range counts {
				if n := enum.Count(g, size, w); n != want {
					t.Fatalf("grammar %d has %d terms of size %d and width %d, not %d", i, n, size, w, want)
				}
			}
		}
	}
}

// TestCountLimits checks the limits of P44.3.
func TestCountLimits(t *testing.T) {
	chain := api.Grammar{Vars: vars(64), Consts: []api.Word{{Width: 64}, {Width: 64}}, Ops: []api.Op{api.OpNot, api.OpNeg}}
	for size, want := range map[int]int64{1: 2, 2: 4, 61: 1 << 61, 62: 1 << 62, 63: 1 << 62, 64: 1 << 62, 0: 0, -1: 0, 65: 0, math.MinInt: 0, math.MaxInt: 0} {
		if n := enum.Count(chain, size, 64); n != want {
			t.Errorf("%d complements or negations of size %d, not %d", n, size, want)
		}
	}
	for _, w := range []int{0, -1, 1, 63, 65, math.MinInt, math.MaxInt} {
		if n := enum.Count(chain, 1, w); n != 0 {
			t.Errorf("%d leaves of width %d", n, w)
		}
	}
	// The sums of n + 1 variables are as many as there are binary trees: the Catalan numbers.
	sums := api.Grammar{Vars: vars(8), Ops: []api.Op{api.OpAdd}, Size: 1, Most: 1}
	for n := range 32 {
		want := new(big.Int).Binomial(int64(2*n), int64(n))
		want.Div(want, big.NewInt(int64(n+1)))
		if got := enum.Count(sums, 2*n+1, 8); got != want.Int64() || enum.Count(sums, 2*n+2, 8) != 0 {
			t.Errorf("%d sums of %d variables, not %d", got, n+1, want)
		}
	}
	sums.Ops = operators()
	sums.Vars = vars(1, 8, 8, 8)
	for _, size := range []int{30, 40, 64} {
		for _, w := range []int{1, 8, 17, 40} {
			if n := enum.Count(sums, size, w); n != api.Infinite {
				t.Errorf("%d terms of size %d and width %d", n, size, w)
			}
		}
	}
	for n := 1; n <= 11; n++ {
		many := api.Grammar{Vars: vars(8, 8, 8, 8), Ops: operators()[2 : 2+n]}
		for size, want := range map[int]int64{3: 16 * int64(n), 62: 0, 63: api.Infinite} {
			if got := enum.Count(many, size, 8); got != want {
				t.Errorf("%d terms of size %d with %d operators, not %d", got, size, n, want)
			}
		}
	}
	if n := enum.Count(api.Grammar{Vars: vars(1), Ops: []api.Op{api.OpConcat}}, 63, 32); n != 14544636039226909 {
		t.Errorf("%d concatenations of 32 bits", n)
	}
}
