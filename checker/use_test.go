package checker_test

import (
	"math"
	"slices"
	"strconv"
	"strings"
	"testing"

	"saturate/api"
	"saturate/checker"
	"saturate/facts"
	"saturate/rule"
	"saturate/ruletext"
	"saturate/term"
)

// one returns the rule with a notation.
func one(t *testing.T, s string) api.Rule {
	t.Helper()
	l, at, e := ruletext.Parse(s)
	if e != api.OK || len(l) != 1 {
		t.Fatal(s, at, e)
	}
	return l[0]
}

// subs returns a substitution, whose entries are separated by semicolons.
func subs(t *testing.T, s string) []api.Sub {
	t.Helper()
	var l []api.Sub
	for part := range strings.SplitSeq(s, ";") {
		if name, text, ok := strings.Cut(part, "="); ok {
			l = append(l, api.Sub{Name: name, Term: read(t, text)})
		}
	}
	return l
}

// top returns a fact that nothing is known.
func top(t *testing.T, s string) api.Concl {
	t.Helper()
	return in(t, s, facts.Top(read(t, s).Width))
}

// TestPremises checks the premises and their order (P35.2).
func TestPremises(t *testing.T) {
	for _, x := range []struct {
		rule, subs string
		want       []api.Concl
	}{
		{"(rule r (add ?a:8 0:8) ?a:8)", "a=(not x:8)", nil},
		{"(rule r (all (r (add ?a:8 #c:8))) ?a:8)", "c=1:8;a=x:8;r=y:8", concls(equal(t, "y:8 = (add x:8 1:8)"))},
		{"(rule r (all (r (add ?a:8 ?s:8)) (_ (not ?r:8)) (s (neg ?t:8)) (s ?u:8)) ?a:8)", "a=1:8;s=x:8;r=y:8;t=(not z:8);u=7:8", concls(equal(t, "y:8 = (add 1:8 x:8)"), equal(t, "x:8 = (neg (not z:8))"), equal(t, "x:8 = 7:8"))},
		{"(rule r (urem ?a:8 #c:8) ?a:8 (if (ult 0:8 #c:8)) (below ?a:8 #c:8) (equal (add ?a:8 #c:8) (neg ?a:8)) (if (eq 1:1 0:1)) (zeros ?a:8 (not #c:8)) (equal #c:8 0:8))", "a=x:8;c=3:8", concls(top(t, "x:8"), equal(t, "(add x:8 3:8) = (neg x:8)"), top(t, "x:8"), equal(t, "3:8 = 0:8"))},
		{"(rule r (all (r (concat ?a:4 ?b:2))) ?r:6 (below ?b:2 2:2) (zeros ?r:6 1:6))", "r=q:6;b=1:2;a=z:4", concls(equal(t, "q:6 = (concat z:4 1:2)"), top(t, "1:2"), top(t, "q:6"))},
		{"(rule r (all (r ?r:8)) 0:8 (equal ?r:8 ?r:8))", "r=x:8;r=y:8;q=z:4", concls(equal(t, "x:8 = x:8"), equal(t, "x:8 = x:8"))}, // the first entry counts
	} {
		l, e := checker.Premises(one(t, x.rule), subs(t, x.subs))
		if e != api.OK || !slices.EqualFunc(l, x.want, checker.Same) {
			t.Errorf("%s, %s: %v, %d, not %v", x.rule, x.subs, l, e, x.want)
		}
	}
}

// TestPremisesErrors checks the errors of P35.2 and their order.
func TestPremisesErrors(t *testing.T) {
	long := []api.Sub{{Name: "a", Term: deep(api.MaxDepth)}}
	for i, x := range []struct {
		rule api.Rule
		subs []api.Sub
		want api.Errno
	}{
		// rule.Check, then the width, then the patterns
		{api.Rule{}, nil, api.ErrName}, {api.Rule{Name: "a"}, nil, api.ErrLong}, {api.Rule{Name: "A", Left: []api.Atom{{Pattern: read(t, "?a:0")}}, Right: read(t, "?a:0")}, nil, api.ErrName}, {api.Rule{Name: "a", Left: []api.Atom{{Pattern: read(t, "?a:0")}}, Right: read(t, "?b:0")}, nil, api.ErrBind},
		{one(t, "(rule r ?a:0 ?a:0)"), nil, api.ErrWidth}, {one(t, "(rule r (add ?a:0 0:0) ?a:0)"), subs(t, "a=x:8"), api.ErrWidth}, {one(t, "(rule r (eq ?a:0 ?b:0) 0:1)"), nil, api.ErrWidth}, {one(t, "(rule r ?a:1 (eq ?a:1 1:1) (if (eq 0:0 0:0)))"), nil, api.ErrWidth},
		{one(t, "(rule r ?a:8 ?a:8)"), nil, api.ErrBind}, {one(t, "(rule r ?a:8 ?a:8)"), subs(t, "b=x:8"), api.ErrBind}, {one(t, "(rule r ?a:8 ?a:8)"), subs(t, "a=x:4"), api.ErrWidth}, {one(t, "(rule r #a:8 #a:8)"), subs(t, "a=x:8"), api.ErrOp}, {one(t, "(rule r #a:8 #a:8)"), subs(t, "a=(not 1:8)"), api.ErrOp}, {one(t, "(rule r #a:8 #a:8)"), subs(t, "a=x:4"), api.ErrWidth}, {one(t, "(rule r (concat ?a:8 ?b:4) 0:12)"), subs(t, "a=x:8;b=x:4"), api.ErrBind},
		{one(t, "(rule r ?a:8 ?a:8)"), subs(t, "a=?x:8"), api.ErrOp}, {one(t, "(rule r ?a:8 ?a:8)"), []api.Sub{{Name: "a", Term: api.Term{Op: api.OpConst, Width: 8, Val: 256}}}, api.ErrWidth}, {one(t, "(rule r ?a:8 ?a:8)"), []api.Sub{{Name: "a", Term: api.Term{Op: api.OpVar, Width: 8, Name: "X"}}}, api.ErrName},
		{one(t, "(rule r ?a:8 ?a:8)"), long, api.OK}, {one(t, "(rule r (not ?a:8) ?a:8)"), long, api.ErrLong}, {one(t, "(rule r ?a:8 ?a:8 (equal ?a:8 (not ?a:8)))"), long, api.ErrLong}, {one(t, "(rule r ?a:8 (not ?a:8))"), long, api.OK}, {one(t, "(rule r ?a:8 ?a:8 (equal (not ?a:8) ?a:8))"), long, api.ErrLong},
		// the Root after its Pattern, and both before those of the next atom
		{one(t, "(rule r (all (r ?a:8)) ?a:8)"), subs(t, "a=x:8"), api.ErrBind}, {one(t, "(rule r (all (r ?a:8)) ?a:8)"), subs(t, "r=x:4"), api.ErrBind}, {one(t, "(rule r (all (r ?a:8)) ?a:8)"), subs(t, "r=x:4;a=x:8"), api.ErrWidth}, {one(t, "(rule r (all (r ?a:8)) ?a:8)"), subs(t, "a=x:4"), api.ErrWidth},
		{one(t, "(rule r (all (r ?a:8) (_ ?b:8)) ?a:8)"), subs(t, "a=x:8;r=x:4"), api.ErrWidth}, {one(t, "(rule r (all (r ?a:8) (_ ?b:8)) ?a:8)"), subs(t, "a=x:8;b=x:4"), api.ErrBind}, {one(t, "(rule r (all (_ ?a:8) (_ ?b:8)) ?a:8)"), subs(t, "b=x:4"), api.ErrBind}, {one(t, "(rule r (all (_ ?a:8) (r #b:8)) ?a:8)"), subs(t, "a=x:8;b=x:8"), api.ErrOp},
		// the guards in order, but not those with a value
		{one(t, "(rule r (concat ?a:8 ?b:8) 0:16 (if (eq 1:1 0:1)) (equal (concat ?a:8 ?b:8) (concat ?b:8 ?a:8)))"), subs(t, "a=x:8;b=y:8"), api.OK}, {one(t, "(rule r (all (_ ?a:8) (_ ?b:4)) 0:8 (equal (concat ?a:8 ?b:4) 0:12))"), subs(t, "a=x:8;b=x:4"), api.ErrBind}, {one(t, "(rule r (all (_ ?a:8) (_ ?b:4)) 0:8 (equal 0:12 (concat ?a:8 ?b:4)))"), subs(t, "a=x:8;b=x:4"), api.ErrBind},
		{one(t, "(rule r (all (_ ?a:8) (_ ?b:4)) 0:8 (equal (not ?a:8) 0:8) (equal (concat ?a:8 ?b:4) 0:12))"), []api.Sub{{Name: "a", Term: deep(64)}, {Name: "b", Term: read(t, "x:4")}}, api.ErrLong}, {one(t, "(rule r (all (_ ?a:8) (_ ?b:4)) 0:8 (equal (concat ?a:8 ?b:4) 0:12) (equal (not ?a:8) 0:8))"), []api.Sub{{Name: "a", Term: deep(63)}, {Name: "b", Term: read(t, "x:4")}}, api.ErrBind},
		{one(t, "(rule r (all (_ ?a:8) (_ ?b:4)) 0:8 (equal 0:12 (concat ?a:8 ?b:4)) (equal 0:8 (not ?a:8)))"), []api.Sub{{Name: "a", Term: deep(63)}, {Name: "b", Term: read(t, "x:4")}}, api.ErrBind},
	} {
		if l, e := checker.Premises(x.rule, x.subs); e != x.want || e != api.OK && len(l) != 0 {
			t.Errorf("case %d, %v: %v, %d, not %d", i, x.rule, l, e, x.want)
		}
		s := api.Step{Kind: api.StepRule, Subs: x.subs}
		if x.want != api.OK {
			if c, e := checker.Step([]api.Rule{x.rule}, nil, s, nil); e != api.ErrStep || !checker.Same(c, api.Concl{}) {
				t.Errorf("case %d, %v: %v, %d", i, x.rule, c, e)
			}
		}
	}
}

// TestRule checks what a StepRule shows, and its conditions (P35.2).
func TestRule(t *testing.T) {
	root := "(rule r (all (r (add ?a:8 #c:8)) (_ (not ?r:8))) (sub ?r:8 (eval (neg #c:8))))"
	atoms := concls(equal(t, "y:8 = (add x:8 3:8)"))
	guards := "(rule r (urem ?a:8 #c:8) (and ?a:8 #c:8) (below ?a:8 #c:8) (if (ult 1:8 #c:8)) (equal ?b:8 (not ?a:8)) (zeros ?b:8 (sub #c:8 1:8)))"
	guards = strings.Replace(guards, "(urem ?a:8 #c:8) (and", "(all (_ (urem ?a:8 #c:8)) (_ ?b:8)) (and", 1)
	high := api.Facts{Width: 8, Known: api.Known{Zeros: 15}, Range: api.Range{Hi: 240}}
	if !facts.Valid(high) {
		t.Fatal(high)
	}
	shown := concls(in(t, "x:8", below(3)), equal(t, "y:8 = (not x:8)"), in(t, "y:8", high))
	for i, x := range []struct {
		rule, subs string
		refs       []api.Concl
		want       string
	}{
		{"(rule r (add ?a:8 0:8) ?a:8)", "a=(not x:8)", nil, "(add (not x:8) 0:8) = (not x:8)"}, {"(rule r (add ?a:8 0:8) ?a:8)", "a=(not x:8);a=y:8;z=1:1", nil, "(add (not x:8) 0:8) = (not x:8)"}, {"(rule r (mul ?a:8 #c:8) (shl ?a:8 (eval (sub #c:8 1:8))))", "a=x:8;c=2:8", nil, "(mul x:8 2:8) = (shl x:8 1:8)"},
		{"(rule r (add ?a:8 0:8) ?a:8)", "a=(not x:8)", concls(equal(t, "x:8 = x:8")), ""}, {"(rule r (add ?a:8 0:8) ?a:8)", "a=(not x:8)", concls(top(t, "x:8")), ""}, {"(rule r (add ?a:8 0:8) ?a:8)", "", nil, ""}, {"(rule r (add ?a:8 0:8) ?a:8)", "a=x:4", nil, ""},
		{root, "a=x:8;c=3:8;r=y:8", atoms, "(add x:8 3:8) = (sub y:8 253:8)"}, {root, "a=x:8;c=3:8;r=y:8", nil, ""}, {root, "a=x:8;c=3:8;r=y:8", append(atoms, atoms...), ""}, {root, "a=x:8;c=2:8;r=y:8", atoms, ""}, {root, "a=x:8;c=3:8;r=z:8", atoms, ""}, {root, "a=y:8;c=3:8;r=y:8", atoms, ""}, {root, "a=x:8;c=3:8;r=y:8", concls(equal(t, "(add x:8 3:8) = y:8")), ""}, {root, "a=x:8;c=3:8;r=y:8", concls(in(t, "y:8", facts.Top(8))), ""}, {root, "a=x:8;c=3:8;r=y:8", concls(equal(t, "y:8 = y:8")), ""},
		{guards, "a=x:8;b=y:8;c=16:8", shown, "(urem x:8 16:8) = (and x:8 16:8)"}, {guards, "a=x:8;b=y:8;c=4:8", shown, "(urem x:8 4:8) = (and x:8 4:8)"},
		{guards, "a=x:8;b=y:8;c=3:8", shown, ""}, {guards, "a=x:8;b=y:8;c=17:8", shown, ""}, {guards, "a=x:8;b=y:8;c=0:8", shown, ""}, {guards, "a=x:8;b=y:8;c=1:8", concls(in(t, "x:8", facts.Const(8, 0)), shown[1], shown[2]), ""}, {guards, "a=x:8;b=y:8;c=2:8", concls(in(t, "x:8", facts.Const(8, 0)), shown[1], shown[2]), "(urem x:8 2:8) = (and x:8 2:8)"},
		{guards, "a=x:8;b=y:8;c=16:8", shown[:2], ""}, {guards, "a=x:8;b=y:8;c=16:8", append(shown[:3:3], shown[2]), ""}, {guards, "a=x:8;b=y:8;c=16:8", concls(shown[1], shown[0], shown[2]), ""}, {guards, "a=x:8;b=y:8;c=16:8", concls(shown[0], shown[2], shown[1]), ""}, {guards, "a=x:8;b=y:8;c=16:8", concls(shown[2], shown[1], shown[0]), ""}, {guards, "a=x:8;b=y:8;c=16:8", concls(shown[0], equal(t, "(not x:8) = y:8"), shown[2]), ""},
		{guards, "a=x:8;b=y:8;c=16:8", concls(in(t, "y:8", below(3)), shown[1], shown[2]), ""}, {guards, "a=x:8;b=y:8;c=16:8", concls(shown[0], shown[1], in(t, "x:8", high)), ""}, {guards, "a=x:8;b=y:8;c=16:8", concls(top(t, "x:8"), shown[1], shown[2]), ""}, {guards, "a=x:8;b=y:8;c=16:8", concls(shown[0], shown[1], top(t, "y:8")), ""}, {guards, "a=x:8;b=y:8;c=16:8", concls(equal(t, "x:8 = x:8"), shown[1], shown[2]), ""}, {guards, "a=x:8;b=y:8;c=16:8", concls(shown[0], shown[1], equal(t, "y:8 = y:8")), ""},
		{"(rule r #c:8 0:8 (if (eq #c:8 0:8)) (if (ult #c:8 2:8)))", "c=0:8", nil, "0:8 = 0:8"}, {"(rule r #c:8 0:8 (if (eq #c:8 0:8)) (if (ult #c:8 2:8)))", "c=1:8", nil, ""}, {"(rule r #c:8 0:8 (if (ult #c:8 2:8)) (if (eq #c:8 0:8)))", "c=1:8", nil, ""}, {"(rule r (all (_ ?a:8) (_ #c:8)) 0:8 (if (eq #c:8 0:8)))", "a=x:8;c=0:8;c=5:8", nil, "x:8 = 0:8"}, {"(rule r (all (_ ?a:8) (_ #c:8) (_ #d:8)) 0:8 (if (ult #c:8 #d:8)))", "d=3:8;a=x:8;c=2:8", nil, "x:8 = 0:8"}, {"(rule r (all (_ ?a:8) (_ #c:8) (_ #d:8)) 0:8 (if (ult #c:8 #d:8)))", "d=2:8;a=x:8;c=3:8", nil, ""},
		{"(rule r (all (a #a:4)) ?a:4)", "a=1:4", nil, ""}, // not a rule
	} {
		var want *api.Concl
		if x.want != "" {
			c := equal(t, x.want)
			want = &c
		}
		r := api.Rule{Name: "r", Left: []api.Atom{{Root: "a", Pattern: read(t, "#a:4")}}, Right: read(t, "?a:4")}
		if l, _, e := ruletext.Parse(x.rule); e == api.OK {
			r = l[0]
		}
		s := api.Step{Kind: api.StepRule, Subs: subs(t, x.subs), A: read(t, "?a:8"), B: read(t, "x:0"), Refs: []int{-1}}
		c, e := checker.Step([]api.Rule{r}, nil, s, x.refs)
		switch {
		case want == nil && (e != api.ErrStep || !checker.Same(c, api.Concl{})):
			t.Errorf("case %d: %v, %d", i, c, e)
		case want != nil && (e != api.OK || !checker.Same(c, *want)):
			t.Errorf("case %d: %v, %d, not %v", i, c, e, *want)
		}
	}
}

// TestRuleIndex checks which rule a StepRule uses.
func TestRuleIndex(t *testing.T) {
	rules := []api.Rule{one(t, "(rule r ?a:8 (not ?a:8))"), {Name: "bad"}, one(t, "(rule r (add ?a:0 0:0) ?a:0)"), one(t, "(rule r ?a:8 (neg ?a:8))")}
	for index, want := range map[int]string{0: "x:8 = (not x:8)", 3: "x:8 = (neg x:8)", 1: "", 2: "", 4: "", -1: "", math.MinInt: "", math.MaxInt: ""} {
		c, e := checker.Step(rules, nil, api.Step{Kind: api.StepRule, Rule: index, Subs: subs(t, "a=x:8")}, nil)
		if want == "" && (e != api.ErrStep || !checker.Same(c, api.Concl{})) || want != "" && (e != api.OK || !checker.Same(c, equal(t, want))) {
			t.Errorf("%d: %v, %d", index, c, e)
		}
	}
}

// TestRuleLong checks that a right side that is too large makes a step invalid.
func TestRuleLong(t *testing.T) {
	rules := []api.Rule{one(t, "(rule r ?a:8 (not ?a:8))"), one(t, "(rule r (concat ?a:8 ?b:4) (concat (not ?a:8) (neg ?b:4)))"), one(t, "(rule r ?a:8 (add (add ?a:8 ?a:8) (add ?a:8 ?a:8)))")}
	for depth, want := range map[int]api.Errno{api.MaxDepth - 1: api.OK, api.MaxDepth: api.ErrStep} {
		if _, e := checker.Step(rules, nil, api.Step{Kind: api.StepRule, Subs: []api.Sub{{Name: "a", Term: deep(depth)}}}, nil); e != want {
			t.Error(depth, e)
		}
	}
	big := read(t, "x:8")
	for n, want := range []api.Errno{api.OK, api.OK, api.OK, api.OK, api.OK, api.OK, api.OK, api.OK, api.OK, api.OK, api.ErrStep, api.ErrStep, api.ErrStep} {
		// of 2^(n+1) - 1 nodes, and four times as many
		if _, e := checker.Step(rules, nil, api.Step{Kind: api.StepRule, Rule: 2, Subs: []api.Sub{{Name: "a", Term: big}}}, nil); e != want {
			t.Error(n, e)
		}
		big = api.Term{Op: api.OpAdd, Width: 8, Args: []api.Term{big, big}}
	}
}

// TestMostPremises checks a rule with as many premises as there can be.
func TestMostPremises(t *testing.T) {
	r := api.Rule{Name: "most", Right: read(t, "?r0:8")}
	s := api.Step{Kind: api.StepRule}
	var refs []api.Concl
	for k := range api.MaxAtoms {
		name := "r" + strconv.Itoa(k)
		r.Left = append(r.Left, api.Atom{Root: name, Pattern: term.Const(8, uint64(k))})
		s.Subs = append(s.Subs, api.Sub{Name: name, Term: term.Var(name, 8)})
		refs = append(refs, api.Concl{A: term.Var(name, 8), B: term.Const(8, uint64(k))})
	}
	for k := range api.MaxGuards {
		r.Guards = append(r.Guards, api.Guard{Kind: api.GuardBelow, A: read(t, "?r0:8"), B: term.Const(8, uint64(k)+1)})
		refs = append(refs, in(t, "r0:8", facts.Const(8, uint64(k))))
	}
	if e := rule.Check(r); e != api.OK {
		t.Fatal(e)
	}
	if c, e := checker.Step([]api.Rule{r}, nil, s, refs); e != api.OK || !checker.Same(c, equal(t, "0:8 = r0:8")) {
		t.Error(c, e)
	}
	for k := range refs {
		if c, e := checker.Step([]api.Rule{r}, nil, s, slices.Delete(slices.Clone(refs), k, k+1)); e != api.ErrStep {
			t.Error(k, c, e)
		}
	}
}

// TestRuleMemory checks general rule 5 for Premises and StepRule.
func TestRuleMemory(t *testing.T) {
	r := one(t, "(rule r (all (r (not ?a:8)) (_ ?b:8)) (not ?a:8) (equal ?a:8 ?b:8) (equal ?a:8 ?b:8) (zeros ?a:8 0:8) (zeros ?a:8 0:8))")
	again := one(t, ruletext.Print([]api.Rule{r}))
	text := "a=(neg (neg x:8));b=(neg x:8);r=(add x:8 x:8)"
	l := subs(t, text)
	want, e := checker.Premises(r, l)
	if e != api.OK {
		t.Fatal(e)
	}
	got, _ := checker.Premises(r, l)
	for k, c := range got {
		scramble(c.A)
		if !term.Same(c.B, want[k].B) {
			t.Errorf("premise %d: the sides share memory", k)
		}
		scramble(c.B)
		if !slices.EqualFunc(got[k+1:], want[k+1:], checker.Same) {
			t.Errorf("premise %d shares memory", k)
		}
	}
	refs := slices.Clone(want)
	c, e := checker.Step([]api.Rule{r}, nil, api.Step{Kind: api.StepRule, Subs: l}, refs)
	if e != api.OK || !term.Same(c.A, c.B) {
		t.Fatal(c, e)
	}
	scramble(c.A)
	if !term.Same(c.B, read(t, "(not (neg (neg x:8)))")) {
		t.Error(c.B)
	}
	scramble(c.B)
	if !rule.Same(r, again) || !slices.EqualFunc(l, subs(t, text), func(a, b api.Sub) bool { return a.Name == b.Name && term.Same(a.Term, b.Term) }) || !slices.EqualFunc(refs, want, checker.Same) {
		t.Error("the arguments changed")
	}
}
