package guard_test

import (
	"math"
	"strconv"
	"testing"

	"saturate/api"
	"saturate/guard"
	"saturate/pattern"
	"saturate/term"
	"saturate/termtext"
)

// read reads a pattern or a term.
func read(t *testing.T, s string) api.Term {
	t.Helper()
	p, e := termtext.Parse(s)
	if e != api.OK {
		t.Fatalf("%s: %d", s, e)
	}
	return p
}

// make2 returns a guard with the patterns that two texts stand for, of which an empty one stands for the zero Term.
func make2(t *testing.T, kind int, a, b string) api.Guard {
	t.Helper()
	c := api.Guard{Kind: kind}
	if a != "" {
		c.A = read(t, a)
	}
	if b != "" {
		c.B = read(t, b)
	}
	return c
}

// same reports whether two guards are equal in all parts.
func same(a, b api.Guard) bool {
	return a.Kind == b.Kind && term.Same(a.A, b.A) && term.Same(a.B, b.B)
}

// The kinds that do not exist.
var unknown = []int{0, 5, -1, math.MinInt, math.MaxInt}

// The holes and nums of the rule for which guards are checked.
var (
	holes = []api.Var{{Name: "a", Width: 8}, {Name: "b", Width: 8}, {Name: "f", Width: 1}, {Name: "g", Width: 0}}
	nums  = []api.Var{{Name: "k", Width: 8}, {Name: "m", Width: 4}, {Name: "n", Width: 0}, {Name: "u", Width: 1}}
)

// TestCheck checks P27.1.
func TestCheck(t *testing.T) {
	for _, x := range []struct {
		kind int
		a, b string
		want api.Errno
	}{
		{api.GuardPred, "(ult #k:8 8:8)", "", api.OK}, {api.GuardPred, "#u:1", "", api.OK}, {api.GuardPred, "1:1", "", api.OK}, {api.GuardPred, "(eq #n:0 1:0)", "", api.OK}, {api.GuardPred, "(eq (and #k:8 (sub #k:8 1:8)) 0:8)", "", api.OK},
		{api.GuardEqual, "?a:8", "?b:8", api.OK}, {api.GuardEqual, "(add ?a:8 #k:8)", "(zext 8 #m:4)", api.OK}, {api.GuardEqual, "0:8", "0:8", api.OK}, {api.GuardEqual, "?g:0", "(add #n:0 1:0)", api.OK},
		{api.GuardZeros, "?a:8", "1:8", api.OK}, {api.GuardZeros, "?b:8", "(not #k:8)", api.OK}, {api.GuardZeros, "?g:0", "#n:0", api.OK}, {api.GuardZeros, "?f:1", "(ult #k:8 3:8)", api.OK},
		{api.GuardBelow, "?a:8", "#k:8", api.OK}, {api.GuardBelow, "?g:0", "(shl 1:0 #n:0)", api.OK},
		// the form
		{api.GuardPred, "1:1", "1:1", api.ErrArg}, {api.GuardPred, "x:1", "0:1", api.ErrArg}, {api.GuardZeros, "#k:8", "1:8", api.ErrArg}, {api.GuardZeros, "(not ?a:8)", "1:8", api.ErrArg}, {api.GuardBelow, "0:8", "1:8", api.ErrArg}, {api.GuardBelow, "a:8", "1:8", api.ErrArg}, {api.GuardBelow, "", "", api.ErrArg}, {api.GuardZeros, "", "x:8", api.ErrArg},
		// the patterns, A first
		{api.GuardPred, "x:1", "", api.ErrOp}, {api.GuardPred, "", "", api.ErrOp}, {api.GuardPred, "(eval 1:1)", "", api.ErrOp}, {api.GuardEqual, "?a:8", "x:8", api.ErrOp}, {api.GuardEqual, "(eval 3:8)", "?a:8", api.ErrOp}, {api.GuardEqual, "?a:8", "(eval 3:8)", api.ErrOp}, {api.GuardZeros, "?a:8", "", api.ErrOp}, {api.GuardBelow, "?a:8", "(eval #k:8)", api.ErrOp},
		{api.GuardEqual, "(concat ?a:8 ?a:4)", "x:8", api.ErrBind}, {api.GuardEqual, "x:8", "(concat ?a:8 ?a:4)", api.ErrOp}, {api.GuardEqual, "(concat ?a:8 #a:8)", "?b:8", api.ErrBind}, {api.GuardPred, "(eq ?z:8 (eval 1:8))", "", api.ErrOp},
		// the names
		{api.GuardPred, "(eq ?a:8 0:8)", "", api.ErrBind}, {api.GuardPred, "?f:1", "", api.ErrBind}, {api.GuardPred, "(eq #z:8 0:8)", "", api.ErrBind}, {api.GuardPred, "(eq #k:4 0:4)", "", api.ErrBind}, {api.GuardPred, "(eq #k:0 0:0)", "", api.ErrBind}, {api.GuardPred, "(eq #a:8 0:8)", "", api.ErrBind},
		{api.GuardEqual, "?a:8", "?z:8", api.ErrBind}, {api.GuardEqual, "?z:8", "?a:8", api.ErrBind}, {api.GuardEqual, "?a:8", "?k:8", api.ErrBind}, {api.GuardEqual, "#a:8", "?a:8", api.ErrBind}, {api.GuardEqual, "?a:8", "?a:4", api.ErrBind}, {api.GuardEqual, "?a:4", "?a:8", api.ErrBind}, {api.GuardEqual, "?a:8", "(zext 8 #k:4)", api.ErrBind}, {api.GuardEqual, "#m:4", "#m:8", api.ErrBind}, {api.GuardEqual, "?g:8", "?a:8", api.ErrBind},
		{api.GuardZeros, "?z:8", "1:8", api.ErrBind}, {api.GuardZeros, "?a:4", "1:4", api.ErrBind}, {api.GuardZeros, "?k:8", "1:8", api.ErrBind}, {api.GuardZeros, "?a:8", "?b:8", api.ErrBind}, {api.GuardZeros, "?a:8", "#z:8", api.ErrBind}, {api.GuardBelow, "?a:8", "(add #k:8 ?a:8)", api.ErrBind}, {api.GuardBelow, "?a:8", "#b:8", api.ErrBind},
		// The names come before the widths.
		{api.GuardPred, "?a:8", "", api.ErrBind}, {api.GuardPred, "#z:8", "", api.ErrBind}, {api.GuardEqual, "?a:8", "?z:4", api.ErrBind}, {api.GuardBelow, "?a:8", "#k:4", api.ErrBind},
		{api.GuardPred, "#k:8", "", api.ErrWidth}, {api.GuardPred, "#n:0", "", api.ErrWidth}, {api.GuardPred, "1:2", "", api.ErrWidth}, {api.GuardEqual, "?a:8", "1:4", api.ErrWidth}, {api.GuardEqual, "?a:8", "?f:1", api.ErrWidth}, {api.GuardEqual, "?a:8", "?g:0", api.ErrWidth}, {api.GuardEqual, "#n:0", "1:1", api.ErrWidth}, {api.GuardZeros, "?a:8", "1:4", api.ErrWidth}, {api.GuardZeros, "?a:8", "#n:0", api.ErrWidth}, {api.GuardBelow, "?f:1", "#k:8", api.ErrWidth}, {api.GuardBelow, "?g:0", "8:8", api.ErrWidth},
	} {
		if e := guard.Check(make2(t, x.kind, x.a, x.b), holes, nums); e != x.want {
			t.Errorf("kind %d, %s, %s: %d, not %d", x.kind, x.a, x.b, e, x.want)
		}
	}
	for _, kind := range unknown {
		for _, a := range []string{"", "?a:8", "1:1"} {
			if e := guard.Check(make2(t, kind, a, ""), holes, nums); e != api.ErrArg {
				t.Errorf("kind %d: %d", kind, e)
			}
		}
	}
}

// TestCheckForms checks P27.1 for patterns that have no text.
func TestCheckForms(t *testing.T) {
	a, k := read(t, "?a:8"), read(t, "#k:8")
	withArg := api.Term{Op: api.OpHole, Width: 8, Name: "a", Args: []api.Term{k}}
	badName := api.Term{Op: api.OpHole, Width: 8, Name: "A"}
	many := read(t, "#n0:8")
	var list []api.Var
	for i := range api.MaxHoles {
		name := "n" + strconv.Itoa(i)
		list = append(list, api.Var{Name: name, Width: 8})
		many = term.Make(api.OpAdd, many, api.Term{Op: api.OpNum, Width: 8, Name: name})
	}
	large := k
	for range 12 {
		large = term.Make(api.OpAdd, large, large)
	}
	for i, x := range []struct {
		c    api.Guard
		want api.Errno
	}{
		{api.Guard{Kind: api.GuardPred, A: read(t, "1:1"), B: api.Term{Args: []api.Term{}}}, api.OK},
		{api.Guard{Kind: api.GuardPred, A: read(t, "1:1"), B: api.Term{Args: make([]api.Term, 1)}}, api.ErrArg},
		{api.Guard{Kind: api.GuardPred, A: read(t, "1:1"), B: api.Term{Width: 1}}, api.ErrArg},
		{api.Guard{Kind: api.GuardPred, A: read(t, "1:1"), B: api.Term{Val: 1}}, api.ErrArg},
		{api.Guard{Kind: api.GuardPred, A: read(t, "1:1"), B: api.Term{Name: "a"}}, api.ErrArg},
		{api.Guard{Kind: api.GuardZeros, A: withArg, B: k}, api.ErrOp},
		{api.Guard{Kind: api.GuardBelow, A: badName, B: k}, api.ErrName},
		{api.Guard{Kind: api.GuardBelow, A: badName, B: read(t, "x:8")}, api.ErrName},
		{api.Guard{Kind: api.GuardBelow, A: api.Term{Op: api.OpHole, Width: 65, Name: "a"}, B: k}, api.ErrWidth},
		{api.Guard{Kind: api.GuardEqual, A: api.Term{Op: api.OpAdd, Width: 8, Args: []api.Term{a, read(t, "?a:4")}}, B: read(t, "x:8")}, api.ErrWidth},
		{api.Guard{Kind: api.GuardPred, A: api.Term{Op: api.OpEq, Width: 8, Args: []api.Term{k, k}}}, api.ErrWidth},
		{api.Guard{Kind: api.GuardEqual, A: a, B: large}, api.ErrLong},
		{api.Guard{Kind: api.GuardEqual, A: large, B: read(t, "x:8")}, api.ErrLong},
		{api.Guard{Kind: api.GuardEqual, A: large.Args[0], B: large.Args[1]}, api.OK},
	} {
		if e := guard.Check(x.c, holes, nums); e != x.want {
			t.Errorf("case %d: %d, not %d", i, e, x.want)
		}
	}
	if e := guard.Check(api.Guard{Kind: api.GuardBelow, A: a, B: many}, holes, list); e != api.OK {
		t.Error(e)
	}
	if e := guard.Check(api.Guard{Kind: api.GuardBelow, A: a, B: term.Make(api.OpAdd, many, k)}, holes, append(list, nums...)); e != api.ErrLong {
		t.Error(e)
	}
	if e := guard.Check(api.Guard{Kind: api.GuardEqual, A: a, B: a}, nil, nil); e != api.ErrBind {
		t.Error(e)
	}
	// All entries of a name count.
	if e := guard.Check(api.Guard{Kind: api.GuardEqual, A: a, B: a}, []api.Var{{Name: "a", Width: 4}, {Name: "a", Width: 8}}, nil); e != api.OK {
		t.Error(e)
	}
}

// TestTerm checks the patterns of P27.2.
func TestTerm(t *testing.T) {
	for _, x := range []struct {
		kind       int
		a, b, want string
	}{
		{api.GuardPred, "(ult #k:8 8:8)", "", "(ult #k:8 8:8)"}, {api.GuardPred, "#u:1", "", "#u:1"}, {api.GuardPred, "#u:1", "x:8", "#u:1"},
		{api.GuardEqual, "(add ?a:8 #k:8)", "?b:8", "(eq (add ?a:8 #k:8) ?b:8)"}, {api.GuardEqual, "?a:0", "1:0", "(eq ?a:0 1:0)"},
		{api.GuardZeros, "?a:8", "(not #k:8)", "(eq (and ?a:8 (not #k:8)) 0:8)"}, {api.GuardZeros, "?a:64", "1:64", "(eq (and ?a:64 1:64) 0:64)"}, {api.GuardZeros, "?a:0", "1:0", "(eq (and ?a:0 1:0) 0:0)"},
		{api.GuardBelow, "?a:8", "#k:8", "(ult ?a:8 #k:8)"}, {api.GuardBelow, "?a:0", "#k:0", "(ult ?a:0 #k:0)"},
	} {
		got := guard.Term(make2(t, x.kind, x.a, x.b))
		if !term.Same(got, read(t, x.want)) {
			t.Errorf("kind %d, %s, %s: %v", x.kind, x.a, x.b, got)
		}
		if e := pattern.Check(got, false); e != api.OK || got.Width != 1 {
			t.Errorf("%v: %d", got, e)
		}
	}
	for _, kind := range unknown {
		if got := guard.Term(make2(t, kind, "?a:8", "?b:8")); !term.Same(got, api.Term{}) {
			t.Errorf("kind %d: %v", kind, got)
		}
	}
	// Guards that are not valid have the same form.
	odd := make2(t, api.GuardZeros, "(not #k:5)", "x:8")
	want := api.Term{Op: api.OpEq, Width: 1, Args: []api.Term{{Op: api.OpAnd, Width: 5, Args: []api.Term{odd.A, odd.B}}, {Op: api.OpConst, Width: 5}}}
	if got := guard.Term(odd); !term.Same(got, want) {
		t.Error(got)
	}
	odd.Kind = api.GuardEqual
	if got := guard.Term(odd); !term.Same(got, api.Term{Op: api.OpEq, Width: 1, Args: []api.Term{odd.A, odd.B}}) {
		t.Error(got)
	}
}

// TestAt checks the instances and the errors of P27.2.
func TestAt(t *testing.T) {
	for _, x := range []struct {
		kind         int
		a, b         string
		w            int
		wantA, wantB string
		want         api.Errno
	}{
		{api.GuardPred, "(ult #k:0 8:0)", "", 4, "(ult #k:4 8:4)", "", api.OK}, {api.GuardPred, "(ult #k:0 8:0)", "", 3, "(ult #k:3 0:3)", "", api.OK}, {api.GuardPred, "(ult #k:8 8:8)", "", 3, "(ult #k:8 8:8)", "", api.OK},
		{api.GuardEqual, "?a:0", "(add #n:0 1:0)", 64, "?a:64", "(add #n:64 1:64)", api.OK}, {api.GuardZeros, "?a:0", "(not 1:0)", 1, "?a:1", "(not 1:1)", api.OK}, {api.GuardBelow, "?a:0", "9:0", 3, "?a:3", "1:3", api.OK}, {api.GuardBelow, "(not ?a:0)", "?b:0", 5, "(not ?a:5)", "?b:5", api.OK},
		{api.GuardPred, "#k:8", "", 0, "", "", api.ErrRange}, {api.GuardEqual, "?a:8", "?b:8", 65, "", "", api.ErrRange}, {api.GuardZeros, "?a:8", "?b:8", -1, "", "", api.ErrRange}, {api.GuardBelow, "?a:8", "?b:8", math.MinInt, "", "", api.ErrRange},
		{api.GuardPred, "(extract 4 4 #k:8)", "", 4, "(extract 4 4 #k:8)", "", api.OK}, {api.GuardEqual, "(zext 8 ?a:8)", "1:8", 9, "(zext 8 ?a:8)", "1:8", api.OK},
	} {
		c, e := guard.At(make2(t, x.kind, x.a, x.b), x.w)
		want := make2(t, x.kind, x.wantA, x.wantB)
		if e != api.OK {
			want = api.Guard{}
		}
		if e != x.want || !same(c, want) {
			t.Errorf("kind %d, %s, %s at %d: %v, %d", x.kind, x.a, x.b, x.w, c, e)
		}
	}
	// An extract beyond the width, or a zext to a smaller one, has no instance.
	cut := api.Term{Op: api.OpExtract, Width: 4, Args: []api.Term{read(t, "?a:0")}}
	for _, c := range []api.Guard{{Kind: api.GuardPred, A: cut}, {Kind: api.GuardEqual, A: cut, B: read(t, "?b:0")}, {Kind: api.GuardEqual, A: read(t, "?b:0"), B: cut}, {Kind: api.GuardZeros, A: read(t, "?b:0"), B: cut}, {Kind: api.GuardBelow, A: read(t, "?b:0"), B: cut}} {
		if got, e := guard.At(c, 3); e != api.ErrWidth || !same(got, api.Guard{}) {
			t.Errorf("%v: %v, %d", c, got, e)
		}
		if got, e := guard.At(c, 4); e != api.OK || got.Kind != c.Kind {
			t.Errorf("%v: %v, %d", c, got, e)
		}
		if got, e := guard.At(c, 0); e != api.ErrRange || !same(got, api.Guard{}) {
			t.Errorf("%v: %v, %d", c, got, e)
		}
	}
	// B is not a pattern for GuardPred.
	if got, e := guard.At(api.Guard{Kind: api.GuardPred, A: read(t, "#n:0"), B: cut}, 1); e != api.OK || !same(got, api.Guard{Kind: api.GuardPred, A: read(t, "#n:1"), B: cut}) {
		t.Error(got, e)
	}
	for _, kind := range unknown {
		for _, w := range []int{-1, 0, 4} {
			if got, e := guard.At(make2(t, kind, "?a:0", "?b:0"), w); e != api.ErrArg || !same(got, api.Guard{}) {
				t.Errorf("kind %d: %v, %d", kind, got, e)
			}
		}
	}
}

// scramble changes all operands of a term, from its leaves on.
func scramble(p api.Term) {
	for k := range p.Args {
		scramble(p.Args[k])
		p.Args[k] = api.Term{}
	}
}

// TestMemory checks general rule 5 for Term and At.
func TestMemory(t *testing.T) {
	for _, kind := range []int{api.GuardPred, api.GuardEqual, api.GuardZeros, api.GuardBelow} {
		c := make2(t, kind, "(not (not 1:1))", "(neg (neg 1:1))")
		want := make2(t, kind, "(not (not 1:1))", "(neg (neg 1:1))")
		scramble(guard.Term(c))
		at, e := guard.At(c, 8)
		if e != api.OK {
			t.Fatal(e)
		}
		scramble(at.A)
		scramble(at.B)
		if !same(c, want) {
			t.Errorf("kind %d: the guard is %v", kind, c)
		}
	}
}
