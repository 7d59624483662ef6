package checker_test

import (
	"math"
	"slices"
	"strings"
	"testing"

	"saturate/api"
	"saturate/checker"
	"saturate/facts"
	"saturate/proof"
	"saturate/term"
	"saturate/termtext"
)

// read reads a pattern or a term, and returns the zero Term for an empty text.
func read(t *testing.T, s string) api.Term {
	t.Helper()
	if s == "" {
		return api.Term{}
	}
	x, e := termtext.Parse(s)
	if e != api.OK {
		t.Fatalf("%s: %d", s, e)
	}
	return x
}

// equal returns an equation, whose terms are separated by an equals sign.
func equal(t *testing.T, s string) api.Concl {
	t.Helper()
	a, b, _ := strings.Cut(s, " = ")
	return api.Concl{A: read(t, a), B: read(t, b)}
}

// in returns a fact.
func in(t *testing.T, s string, f api.Facts) api.Concl {
	t.Helper()
	return api.Concl{IsFact: true, A: read(t, s), Facts: f}
}

// below returns the facts of a byte that is at most hi, which is one less than a power of two.
func below(hi uint64) api.Facts {
	f, _ := facts.Meet(facts.Top(8), api.Facts{Width: 8, Known: api.Known{Zeros: 255 &^ hi}, Range: api.Range{Hi: hi}})
	return f
}

// step returns a step of a kind with terms.
func step(t *testing.T, kind int, l ...string) api.Step {
	t.Helper()
	s := api.Step{Kind: kind}
	if len(l) > 0 {
		s.A = read(t, l[0])
	}
	if len(l) > 1 {
		s.B = read(t, l[1])
	}
	return s
}

// concls returns a list of conclusions.
func concls(l ...api.Concl) []api.Concl {
	return l
}

// shows checks what a step shows; want is nil if it shows nothing.
func shows(t *testing.T, s api.Step, refs []api.Concl, want *api.Concl) {
	t.Helper()
	c, e := checker.Step(nil, nil, s, refs)
	switch {
	case want == nil && (e != api.ErrStep || !checker.Same(c, api.Concl{})):
		t.Errorf("%v, %v: %v, %d", s, refs, c, e)
	case want != nil && (e != api.OK || !checker.Same(c, *want)):
		t.Errorf("%v, %v: %v, %d, not %v", s, refs, c, e, *want)
	}
}

// deep returns a term with a depth.
func deep(depth int) api.Term {
	u := term.Var("x", 8)
	for range depth - 1 {
		u = term.Make(api.OpNot, u)
	}
	return u
}

// TestTerms checks the kinds without Refs of P35.1.
func TestTerms(t *testing.T) {
	for _, s := range []string{"x:8", "0:64", "(add x:8 (neg y:8))", "(zext 9 x:8)"} {
		c := equal(t, s+" = "+s)
		shows(t, step(t, api.StepRefl, s), nil, &c)
		c = in(t, s, facts.Top(c.A.Width))
		shows(t, step(t, api.StepTop, s), nil, &c)
	}
	for s, want := range map[string]string{"5:8": "5:8", "(add 1:8 255:8)": "0:8", "(concat 1:2 (ult 3:8 4:8))": "3:3", "(udiv 1:64 0:64)": "18446744073709551615:64", "(ite (eq 1:4 2:4) 3:8 (sext 8 8:4))": "248:8"} {
		c := equal(t, s+" = "+want)
		shows(t, step(t, api.StepFold, s), nil, &c)
	}
	for _, s := range []string{"x:8", "(mul x:8 0:8)", "(sub x:8 x:8)"} {
		shows(t, step(t, api.StepFold, s), nil, nil)
	}
	// terms that are not valid, or of which some part is ignored
	bad := []api.Term{{}, read(t, "?a:8"), read(t, "#a:8"), read(t, "x:0"), read(t, "(eval 1:8)"), read(t, "(concat x:8 x:4)"), {Op: api.OpConst, Width: 8, Val: 256}, {Op: api.OpNot, Width: 8}, {Op: 27, Width: 8}, deep(api.MaxDepth + 1)}
	for _, u := range bad {
		for kind := range 14 {
			if c, e := checker.Step(nil, nil, api.Step{Kind: kind, A: u, B: u}, nil); e != api.ErrStep || !checker.Same(c, api.Concl{}) {
				t.Errorf("kind %d, %v: %v, %d", kind, u, c, e)
			}
		}
		for _, kind := range []int{api.StepRefl, api.StepFold, api.StepTop} {
			want, _ := checker.Step(nil, nil, step(t, kind, "1:8"), nil)
			if c, e := checker.Step(nil, nil, api.Step{Kind: kind, A: term.Const(8, 1), B: u, Rule: -5, Refs: []int{3, 4}, Subs: []api.Sub{{Name: "a", Term: u}}}, nil); e != api.OK || !checker.Same(c, want) {
				t.Errorf("kind %d: %v, %d", kind, c, e)
			}
		}
	}
	u := deep(api.MaxDepth)
	shows(t, api.Step{Kind: api.StepRefl, A: u}, nil, &api.Concl{A: u, B: u})
}

// TestSymTrans checks the kinds StepSym and StepTrans of P35.1.
func TestSymTrans(t *testing.T) {
	xy, yx, yz, xz := equal(t, "x:8 = y:8"), equal(t, "y:8 = x:8"), equal(t, "y:8 = (not z:8)"), equal(t, "x:8 = (not z:8)")
	shows(t, step(t, api.StepSym), concls(xy), &yx)
	shows(t, step(t, api.StepSym), concls(yx), &xy)
	shows(t, step(t, api.StepTrans), concls(xy, yz), &xz)
	back := equal(t, "x:8 = x:8")
	shows(t, step(t, api.StepTrans), concls(xy, yx), &back)
	shows(t, step(t, api.StepTrans), concls(back, back), &back)
	shows(t, step(t, api.StepTrans), concls(xy, xz), nil)
	shows(t, step(t, api.StepTrans), concls(yz, xy), nil)
	shows(t, step(t, api.StepTrans), concls(xy, xy), nil)
	fact := in(t, "x:8", facts.Top(8))
	shows(t, step(t, api.StepSym), concls(fact), nil)
	shows(t, step(t, api.StepTrans), concls(fact, xy), nil)
	shows(t, step(t, api.StepTrans), concls(yx, fact), nil)
	// The terms of these kinds are ignored.
	junk := step(t, api.StepSym, "(concat x:8 x:4)", "?a:8")
	junk.Rule, junk.Refs, junk.Subs = 7, []int{-1, 1, 2}, []api.Sub{{Name: "x"}}
	shows(t, junk, concls(xy), &yx)
	junk.Kind = api.StepTrans
	shows(t, junk, concls(xy, yz), &xz)
	// A width belongs to an equation, not to a name.
	mixed, wide := equal(t, "x:8 = (zext 8 x:4)"), equal(t, "(zext 8 x:4) = x:8")
	shows(t, step(t, api.StepSym), concls(mixed), &wide)
}

// TestRefs checks that Refs have to be conclusions, and which of their parts are ignored (P35.1).
func TestRefs(t *testing.T) {
	yx, fact := equal(t, "y:8 = x:8"), in(t, "y:8", facts.Top(8))
	withFacts, withB := equal(t, "x:8 = y:8"), in(t, "x:8", facts.Top(8))
	withFacts.Facts, withB.B = facts.Const(4, 9), read(t, "?a:3")
	shows(t, step(t, api.StepSym), concls(withFacts), &yx)
	shows(t, step(t, api.StepMove), concls(withFacts, withB), &fact)
	for _, c := range []api.Concl{
		{}, equal(t, "x:8 = "), equal(t, " = x:8"), equal(t, "x:8 = y:4"), equal(t, "x:8 = (not y:4)"), equal(t, "?a:8 = x:8"), equal(t, "x:8 = #a:8"), equal(t, "(concat x:8 x:4) = y:12"), equal(t, "y:12 = (concat x:8 x:4)"), {A: deep(65), B: deep(3)}, {A: deep(3), B: deep(65)},
		{IsFact: true}, in(t, "x:8", api.Facts{}), in(t, "x:8", facts.Top(7)), in(t, "x:8", facts.Top(9)), in(t, "", facts.Top(1)), in(t, "?a:8", facts.Top(8)), {IsFact: true, A: deep(65), Facts: facts.Top(8)},
		in(t, "x:8", api.Facts{Width: 8, Known: api.Known{Zeros: 1, Ones: 1}, Range: api.Range{Hi: 255}}), in(t, "x:8", api.Facts{Width: 8, Range: api.Range{Lo: 2, Hi: 1}}), in(t, "x:8", api.Facts{Width: 8, Known: api.Known{Zeros: 128}, Range: api.Range{Hi: 255}}), in(t, "x:8", api.Facts{Width: 8, Range: api.Range{Hi: 127}}),
	} {
		for _, s := range []api.Step{step(t, api.StepSym), step(t, api.StepSingle), step(t, api.StepCong, "(not x:8)", "(not x:8)"), step(t, api.StepNode, "(not x:8)")} {
			shows(t, s, concls(c), nil)
		}
		for kind := range 14 {
			shows(t, step(t, kind), concls(c), nil)
			shows(t, step(t, kind), concls(c, c), nil)
			shows(t, step(t, kind), concls(equal(t, "x:8 = x:8"), c), nil)
			shows(t, step(t, kind), concls(c, in(t, "x:8", facts.Top(8))), nil)
		}
	}
}

// TestCounts checks the numbers of refs of P35.1 and unknown kinds.
func TestCounts(t *testing.T) {
	same, fact := equal(t, "0:8 = 0:8"), in(t, "0:8", facts.Const(8, 0))
	refs := map[int][]api.Concl{
		api.StepRefl: nil, api.StepSym: {same}, api.StepTrans: {same, same}, api.StepCong: nil, api.StepFold: nil, api.StepTop: nil, api.StepNode: nil, api.StepMeet: {fact, fact}, api.StepMove: {same, fact}, api.StepSingle: {fact}, api.StepGiven: nil,
	}
	for kind, l := range refs {
		s := step(t, kind, "0:8", "0:8")
		if _, e := checker.Step(nil, concls(same), s, l); e != api.OK {
			t.Errorf("kind %d: %d", kind, e)
		}
		var wrong [][]api.Concl
		for _, c := range concls(same, fact) {
			wrong = append(wrong, append(slices.Clone(l), c), append(concls(c), l...), append(slices.Clone(l), c, c), append(slices.Clone(l), c, c, c))
		}
		if len(l) > 0 {
			wrong = append(wrong, l[1:], l[:len(l)-1], nil)
		}
		for _, refs := range wrong {
			if c, e := checker.Step(nil, concls(same), s, refs); e != api.ErrStep || !checker.Same(c, api.Concl{}) {
				t.Errorf("kind %d, %d refs: %v, %d", kind, len(refs), c, e)
			}
		}
	}
	for _, kind := range []int{0, 13, -1, math.MinInt, math.MaxInt} {
		for n := range 4 {
			shows(t, step(t, kind, "0:8", "0:8"), []api.Concl{same, same, same}[:n], nil)
			shows(t, step(t, kind, "0:8", "0:8"), []api.Concl{fact, fact, fact}[:n], nil)
		}
	}
}

// TestCong checks the kind StepCong of P35.1.
func TestCong(t *testing.T) {
	xy, one, yx := equal(t, "x:8 = y:8"), equal(t, "1:8 = (neg 255:8)"), equal(t, "y:8 = x:8")
	for _, x := range []struct {
		a, b string
		refs []api.Concl
		ok   bool
	}{
		{"(add x:8 1:8)", "(add y:8 (neg 255:8))", concls(xy, one), true}, {"(add 1:8 x:8)", "(add (neg 255:8) y:8)", concls(one, xy), true}, {"(not x:8)", "(not y:8)", concls(xy), true}, {"(zext 12 x:8)", "(zext 12 y:8)", concls(xy), true}, {"(extract 4 2 x:8)", "(extract 4 2 y:8)", concls(xy), true}, {"x:8", "x:8", nil, true}, {"7:8", "7:8", nil, true},
		{"(ite c:1 x:8 1:8)", "(ite d:1 y:8 (neg 255:8))", concls(equal(t, "c:1 = d:1"), xy, one), true},
		{"(add x:8 1:8)", "(add y:8 (neg 255:8))", concls(one, xy), false}, {"(add x:8 1:8)", "(add y:8 1:8)", concls(xy, one), false}, {"(add x:8 1:8)", "(add y:8 (neg 255:8))", concls(xy), false}, {"(add x:8 1:8)", "(add y:8 (neg 255:8))", concls(xy, one, one), false}, {"(not x:8)", "(not y:8)", nil, false}, {"(not x:8)", "(not x:8)", nil, false},
		{"(not y:8)", "(not x:8)", concls(xy), false}, {"(not x:8)", "(not y:8)", concls(yx), false}, {"(not x:8)", "(not x:8)", concls(xy), false}, {"(not y:8)", "(not y:8)", concls(xy), false}, {"(not x:8)", "(neg y:8)", concls(xy), false}, {"(zext 12 x:8)", "(zext 13 y:8)", concls(xy), false}, {"(zext 12 x:8)", "(sext 12 y:8)", concls(xy), false}, {"(extract 4 2 x:8)", "(extract 3 2 y:8)", concls(xy), false}, {"(extract 4 2 x:8)", "(extract 4 3 y:8)", concls(xy), false},
		{"x:8", "y:8", nil, false}, {"x:8", "y:8", concls(xy), false}, {"7:8", "8:8", nil, false}, {"x:8", "x:4", nil, false}, {"0:8", "0:4", nil, false}, {"(not x:8)", "(add y:8 y:8)", concls(xy), false}, {"(add x:8 x:8)", "(not y:8)", concls(xy, xy), false}, {"(add x:8 1:8)", "(sub y:8 (neg 255:8))", concls(xy, one), false},
		{"(not x:8)", "(not y:8)", concls(in(t, "x:8", facts.Top(8))), false}, {"(not x:8)", "(not x:8)", concls(in(t, "x:8", facts.Top(8))), false},
		{"(concat x:8 z:4)", "(concat y:8 y:4)", concls(xy, equal(t, "z:4 = y:4")), false}, // y has two widths
		{"(concat y:8 y:4)", "(concat x:8 z:4)", concls(yx, equal(t, "y:4 = z:4")), false},
	} {
		var want *api.Concl
		if x.ok {
			want = &api.Concl{A: read(t, x.a), B: read(t, x.b)}
		}
		shows(t, step(t, api.StepCong, x.a, x.b), x.refs, want)
	}
	// a term of more than MaxDepth levels, from conclusions with valid terms
	d := deep(api.MaxDepth)
	over := api.Term{Op: api.OpNot, Width: 8, Args: []api.Term{d}}
	shows(t, api.Step{Kind: api.StepCong, A: over, B: over}, concls(api.Concl{A: d, B: d}), nil)
	big := read(t, "x:8")
	for range 11 {
		big = term.Make(api.OpAdd, big, big)
	}
	sum := term.Make(api.OpAdd, big, read(t, "x:8")) // of 4097 nodes
	shows(t, api.Step{Kind: api.StepCong, A: sum, B: sum}, concls(api.Concl{A: big, B: big}, equal(t, "x:8 = x:8")), nil)
	fine := term.Make(api.OpNot, big)
	shows(t, api.Step{Kind: api.StepCong, A: fine, B: fine}, concls(api.Concl{A: big, B: big}), &api.Concl{A: fine, B: fine})
	many := api.Term{Op: api.OpAdd, Width: 8, Args: []api.Term{d, d, d, d}}
	shows(t, api.Step{Kind: api.StepCong, A: many, B: many}, concls(api.Concl{A: d, B: d}, api.Concl{A: d, B: d}, api.Concl{A: d, B: d}, api.Concl{A: d, B: d}), nil)
}

// TestFacts checks the kinds of P35.1 that are about facts.
func TestFacts(t *testing.T) {
	x, y, low, zero := in(t, "x:8", facts.Top(8)), in(t, "y:8", below(15)), in(t, "x:8", below(3)), in(t, "0:8", facts.Const(8, 0))
	xy := equal(t, "x:8 = y:8")
	// node
	for s, refs := range map[string][]api.Concl{"(add x:8 y:8)": {low, y}, "(and x:8 0:8)": {x, zero}, "(not x:8)": {low}, "z:8": nil, "200:8": nil, "(extract 2 4 y:8)": {y}, "(zext 16 x:8)": {low}, "(ite c:1 x:8 y:8)": {in(t, "c:1", facts.Const(1, 0)), low, y}} {
		u := read(t, s)
		var l []api.Facts
		for _, ref := range refs {
			l = append(l, ref.Facts)
		}
		f, e := facts.Apply(u.Op, u.Width, u.Val, l)
		if e != api.OK {
			t.Fatal(e)
		}
		shows(t, step(t, api.StepNode, s), refs, &api.Concl{IsFact: true, A: u, Facts: f})
	}
	shows(t, step(t, api.StepNode, "(add x:8 y:8)"), concls(y, low), nil)
	shows(t, step(t, api.StepNode, "(add x:8 y:8)"), concls(low, low), nil)
	shows(t, step(t, api.StepNode, "(add x:8 x:8)"), concls(low, y), nil)
	shows(t, step(t, api.StepNode, "(add x:8 y:8)"), concls(low), nil)
	shows(t, step(t, api.StepNode, "(not x:8)"), concls(xy), nil)
	shows(t, step(t, api.StepNode, "(not x:8)"), concls(equal(t, "x:8 = x:8")), nil)
	// meet
	both := in(t, "x:8", below(3))
	shows(t, step(t, api.StepMeet), concls(low, x), &both)
	shows(t, step(t, api.StepMeet), concls(x, low), &both)
	one := in(t, "x:8", facts.Const(8, 1))
	shows(t, step(t, api.StepMeet), concls(one, low), &one)
	shows(t, step(t, api.StepMeet), concls(one, in(t, "x:8", facts.Const(8, 2))), nil)
	shows(t, step(t, api.StepMeet), concls(in(t, "x:8", facts.Const(8, 4)), low), nil)
	shows(t, step(t, api.StepMeet), concls(low, in(t, "y:8", facts.Top(8))), nil)
	shows(t, step(t, api.StepMeet), concls(low, in(t, "x:4", facts.Top(4))), nil)
	shows(t, step(t, api.StepMeet), concls(xy, low), nil)
	shows(t, step(t, api.StepMeet), concls(low, xy), nil)
	// move
	moved := in(t, "y:8", below(3))
	shows(t, step(t, api.StepMove), concls(xy, low), &moved)
	shows(t, step(t, api.StepMove), concls(equal(t, "y:8 = x:8"), low), nil)
	shows(t, step(t, api.StepMove), concls(xy, y), nil)
	shows(t, step(t, api.StepMove), concls(low, xy), nil)
	shows(t, step(t, api.StepMove), concls(xy, xy), nil)
	shows(t, step(t, api.StepMove), concls(low, low), nil)
	// single
	eq := equal(t, "x:8 = 1:8")
	shows(t, step(t, api.StepSingle), concls(one), &eq)
	eq = equal(t, "(not z:64) = 18446744073709551615:64")
	shows(t, step(t, api.StepSingle), concls(in(t, "(not z:64)", facts.Const(64, math.MaxUint64))), &eq)
	shows(t, step(t, api.StepSingle), concls(low), nil)
	shows(t, step(t, api.StepSingle), concls(x), nil)
	shows(t, step(t, api.StepSingle), concls(eq), nil)
}

// TestGiven checks the kind StepGiven of P35.1.
func TestGiven(t *testing.T) {
	withFacts := equal(t, "x:8 = y:8")
	withFacts.Facts = facts.Top(8)
	given := concls(equal(t, "x:8 = (not y:8)"), in(t, "x:8", facts.Top(8)), equal(t, "x:8 = y:4"), equal(t, "?a:8 = x:8"), withFacts, equal(t, "x:4 = 1:4"))
	for index, want := range []string{"x:8 = (not y:8)", "", "", "", "x:8 = y:8", "x:4 = 1:4", ""} {
		s := step(t, api.StepGiven, "?a:8", "(concat x:8 x:4)")
		s.Rule = index
		c, e := checker.Step(nil, given, s, nil)
		if want == "" && (e != api.ErrStep || !checker.Same(c, api.Concl{})) || want != "" && (e != api.OK || !checker.Same(c, equal(t, want))) {
			t.Errorf("%d: %v, %d", index, c, e)
		}
	}
	for _, index := range []int{-1, math.MinInt, math.MaxInt, 6} {
		if c, e := checker.Step(nil, given, api.Step{Kind: api.StepGiven, Rule: index}, nil); e != api.ErrStep || !checker.Same(c, api.Concl{}) {
			t.Errorf("%d: %v, %d", index, c, e)
		}
	}
}

// example returns a proof of (sub x 1) = 4, given that x = 5, and the conclusions of its steps.
func example(t *testing.T) ([]api.Concl, []api.Step, []api.Concl) {
	t.Helper()
	cong := step(t, api.StepCong, "(sub x:8 1:8)", "(sub 5:8 1:8)")
	cong.Refs = []int{0, 1}
	p := []api.Step{step(t, api.StepGiven), step(t, api.StepRefl, "1:8"), cong, step(t, api.StepFold, "(sub 5:8 1:8)"), step(t, api.StepTrans)}
	p[4].Refs = []int{2, 3}
	return concls(equal(t, "x:8 = 5:8")), p, concls(equal(t, "x:8 = 5:8"), equal(t, "1:8 = 1:8"), equal(t, "(sub x:8 1:8) = (sub 5:8 1:8)"), equal(t, "(sub 5:8 1:8) = 4:8"), equal(t, "(sub x:8 1:8) = 4:8"))
}

// TestConclude checks P35.1 for whole proofs.
func TestConclude(t *testing.T) {
	given, p, want := example(t)
	for n := 1; n <= len(p); n++ {
		if l, at, e := checker.Conclude(nil, given, p[:n]); at != 0 || e != api.OK || !slices.EqualFunc(l, want[:n], checker.Same) {
			t.Error(l, at, e)
		}
	}
	// the errors of proof.Check come first, then the first step that shows nothing
	for i, x := range []struct {
		change func(p []api.Step) []api.Step
		at     int
		e      api.Errno
	}{
		{func(p []api.Step) []api.Step { return nil }, 0, api.ErrNone},
		{func(p []api.Step) []api.Step { return make([]api.Step, api.MaxSteps+1) }, 0, api.ErrLong},
		{func(p []api.Step) []api.Step { p[0].Rule = 1; p[4].Refs = []int{2, 4}; return p }, 4, api.ErrStep},
		{func(p []api.Step) []api.Step { p[0].Rule = 1; p[3].Kind = 13; return p }, 3, api.ErrStep},
		{func(p []api.Step) []api.Step { p[0].Rule = 1; return p }, 0, api.ErrStep},
		{func(p []api.Step) []api.Step { p[1].A = api.Term{}; return p }, 1, api.ErrStep},
		{func(p []api.Step) []api.Step { p[2].Refs = []int{1, 0}; p[3].A = read(t, "x:8"); return p }, 2, api.ErrStep},
		{func(p []api.Step) []api.Step { p[3].A = read(t, "x:8"); return p }, 3, api.ErrStep},
		{func(p []api.Step) []api.Step { p[4].Refs = []int{3, 2}; return p }, 4, api.ErrStep},
		{func(p []api.Step) []api.Step { p[4].Refs = []int{3, -1}; p[1].Kind = 0; return p }, 1, api.ErrStep},
	} {
		_, p, _ := example(t)
		p = x.change(p)
		if l, at, e := checker.Conclude(nil, given, p); len(l) != 0 || at != x.at || e != x.e {
			t.Errorf("case %d: %v, %d, %d", i, l, at, e)
		}
		if e := checker.Check(nil, given, p, read(t, "(sub x:8 1:8)"), read(t, "4:8")); e != x.e {
			t.Errorf("case %d: %d", i, e)
		}
	}
}

// TestLong checks proofs at the limit of their length.
func TestLong(t *testing.T) {
	p := []api.Step{step(t, api.StepRefl, "x:8")}
	for len(p) < api.MaxSteps {
		p = append(p, api.Step{Kind: api.StepTrans, Refs: []int{len(p) - 1, len(p) / 2}})
	}
	l, at, e := checker.Conclude(nil, nil, p)
	if len(l) != api.MaxSteps || at != 0 || e != api.OK || !checker.Same(l[len(l)-1], equal(t, "x:8 = x:8")) {
		t.Error(len(l), at, e)
	}
	// Few terms are enough for many large conclusions.
	big := read(t, "x:8")
	for range 11 {
		big = term.Make(api.OpAdd, big, big)
	}
	p[0].A = big
	if e := checker.Check(nil, nil, p[:3000], big, big); e != api.OK {
		t.Error(e)
	}
	for k := range p[1:] {
		p[k+1] = api.Step{Kind: api.StepSym, Refs: []int{k}}
	}
	if e := checker.Check(nil, nil, p, big, big); e != api.OK {
		t.Error(e)
	}
}

// TestCheck checks P35.3 for Check.
func TestCheck(t *testing.T) {
	given, p, _ := example(t)
	for _, x := range []struct {
		a, b string
		want api.Errno
	}{
		{"(sub x:8 1:8)", "4:8", api.OK}, {"4:8", "(sub x:8 1:8)", api.ErrArg}, {"(sub x:8 1:8)", "(sub x:8 1:8)", api.ErrArg}, {"4:8", "4:8", api.ErrArg}, {"(sub x:8 1:8)", "(sub 5:8 1:8)", api.ErrArg}, {"(sub y:8 1:8)", "4:8", api.ErrArg}, {"(sub x:8 1:8)", "4:4", api.ErrArg}, {"", "", api.ErrArg}, {"?a:8", "4:8", api.ErrArg}, {"(sub x:8 1:8)", "", api.ErrArg},
	} {
		if e := checker.Check(nil, given, p, read(t, x.a), read(t, x.b)); e != x.want {
			t.Errorf("%s, %s: %d", x.a, x.b, e)
		}
	}
	if e := checker.Check(nil, nil, p, read(t, "(sub x:8 1:8)"), read(t, "4:8")); e != api.ErrStep {
		t.Error(e)
	}
	if e := checker.Check(nil, given, nil, read(t, "(sub x:8 1:8)"), read(t, "4:8")); e != api.ErrNone {
		t.Error(e)
	}
	// A fact is no equation.
	fact := []api.Step{step(t, api.StepTop, "x:8")}
	for _, b := range []string{"", "x:8"} {
		if e := checker.Check(nil, nil, fact, read(t, "x:8"), read(t, b)); e != api.ErrArg {
			t.Error(b, e)
		}
	}
}

// TestSame checks P35.3 for Same.
func TestSame(t *testing.T) {
	l := concls(api.Concl{}, equal(t, "x:8 = y:8"), equal(t, "y:8 = x:8"), equal(t, "x:8 = x:8"), equal(t, "x:8 = "), equal(t, " = x:8"), in(t, "x:8", facts.Top(8)), in(t, "x:8", below(3)), in(t, "y:8", facts.Top(8)), api.Concl{IsFact: true}, in(t, "x:8", api.Facts{Width: 8}), equal(t, "(add x:8 1:8) = y:8"), equal(t, "(add x:8 2:8) = y:8"))
	for _, part := range []api.Concl{{IsFact: true, A: read(t, "x:8"), B: read(t, "y:8")}, {A: read(t, "x:8"), B: read(t, "y:8"), Facts: facts.Top(8)}, {A: read(t, "x:8"), B: read(t, "y:8"), Facts: facts.Top(4)}, {IsFact: true, A: read(t, "x:8"), B: read(t, "y:8"), Facts: facts.Top(8)}} {
		l = append(l, part)
	}
	for i, a := range l {
		for k, b := range l {
			if checker.Same(a, b) != (i == k) {
				t.Errorf("%v, %v", a, b)
			}
		}
	}
	if !checker.Same(equal(t, "(add x:8 1:8) = y:8"), equal(t, "(add x:8 1:8) = y:8")) || !checker.Same(api.Concl{A: api.Term{Args: []api.Term{}}}, api.Concl{}) {
		t.Error("equal conclusions")
	}
}

// TestHolds checks P35.3 for Holds.
func TestHolds(t *testing.T) {
	env := []api.Bind{{Name: "x", Val: 256 + 7}, {Name: "x", Val: 1}, {Name: "y", Val: 8}}
	for _, x := range []struct {
		c    api.Concl
		ok   bool
		want api.Errno
	}{
		{equal(t, "x:8 = 7:8"), true, api.OK}, {equal(t, "x:8 = 1:8"), false, api.OK}, {equal(t, "(add x:8 1:8) = y:8"), true, api.OK}, {equal(t, "y:8 = (add x:8 1:8)"), true, api.OK}, {equal(t, "x:8 = y:8"), false, api.OK}, {equal(t, "x:4 = 7:4"), true, api.OK}, {equal(t, "x:8 = (zext 8 x:4)"), true, api.OK},
		{in(t, "x:8", below(7)), true, api.OK}, {in(t, "x:8", below(3)), false, api.OK}, {in(t, "y:8", below(7)), false, api.OK}, {in(t, "x:8", facts.Top(8)), true, api.OK}, {in(t, "(add x:8 y:8)", facts.Const(8, 15)), true, api.OK}, {in(t, "x:8", facts.Const(8, 6)), false, api.OK},
		{equal(t, "z:8 = x:8"), false, api.ErrBind}, {equal(t, "x:8 = z:8"), false, api.ErrBind}, {equal(t, "z:8 = z:8"), false, api.ErrBind}, {in(t, "z:8", facts.Top(8)), false, api.ErrBind},
		// the error of A comes first
		{equal(t, "(concat x:8 x:4) = ?a:8"), false, api.ErrBind}, {equal(t, "?a:8 = z:8"), false, api.ErrOp}, {equal(t, "z:8 = ?a:8"), false, api.ErrBind}, {equal(t, "x:8 = ?a:8"), false, api.ErrOp}, {in(t, "?a:8", facts.Top(8)), false, api.ErrOp}, {api.Concl{A: deep(65), B: deep(65)}, false, api.ErrLong},
	} {
		if ok, e := checker.Holds(x.c, env); ok != x.ok || e != x.want {
			t.Errorf("%v: %v, %d", x.c, ok, e)
		}
	}
	// B of a fact is ignored.
	c := in(t, "x:8", below(7))
	c.B = read(t, "z:8")
	if ok, e := checker.Holds(c, env); !ok || e != api.OK {
		t.Error(ok, e)
	}
}

// scramble changes all operands of a term.
func scramble(u api.Term) {
	for k := range u.Args {
		scramble(u.Args[k])
		u.Args[k] = api.Term{}
	}
}

// TestMemory checks general rule 5 for Step and Conclude.
func TestMemory(t *testing.T) {
	_, p, _ := example(t)
	p = append(p, api.Step{Kind: api.StepRefl, A: read(t, "(not (not x:8))")}, api.Step{Kind: api.StepSym, Refs: []int{4}}, api.Step{Kind: api.StepTop, A: read(t, "(not x:8)")}, api.Step{Kind: api.StepNode, Refs: []int{7}, A: read(t, "(not (not x:8))")}, api.Step{Kind: api.StepMeet, Refs: []int{8, 8}}, api.Step{Kind: api.StepMove, Refs: []int{5, 9}})
	given := concls(equal(t, "x:8 = 5:8"), equal(t, "(neg x:8) = (neg (neg 5:8))"))
	p = append(p, api.Step{Kind: api.StepGiven, Rule: 1})
	before := proof.Join(p, nil)
	l, at, e := checker.Conclude(nil, given, p)
	if e != api.OK {
		t.Fatal(at, e)
	}
	want, _, _ := checker.Conclude(nil, given, p)
	for k, c := range l {
		scramble(c.A)
		if !term.Same(c.B, want[k].B) {
			t.Errorf("step %d: the sides share memory", k)
		}
		scramble(c.B)
		if !slices.EqualFunc(l[k+1:], want[k+1:], checker.Same) {
			t.Errorf("step %d: the conclusions share memory", k)
		}
	}
	if !proof.Same(p, before) || !checker.Same(given[1], equal(t, "(neg x:8) = (neg (neg 5:8))")) {
		t.Error("the arguments changed")
	}
	for k, s := range p {
		var refs []api.Concl
		for _, ref := range s.Refs {
			refs = append(refs, want[ref])
		}
		c, e := checker.Step(nil, given, s, refs)
		if e != api.OK || !checker.Same(c, want[k]) {
			t.Fatal(k, e)
		}
		scramble(c.A)
		if !term.Same(c.B, want[k].B) {
			t.Errorf("step %d: the sides share memory", k)
		}
		scramble(c.B)
		if again, _, _ := checker.Conclude(nil, given, p); !slices.EqualFunc(again, want, checker.Same) || !proof.Same(p, before) {
			t.Errorf("step %d shares memory", k)
		}
	}
}
