package prooftext_test

import (
	"math"
	"testing"

	"saturate/api"
	"saturate/checker"
	"saturate/proof"
	"saturate/prooftext"
	"saturate/ruletext"
	"saturate/term"
	"saturate/termtext"
)

// read returns the term with a text.
func read(t *testing.T, s string) api.Term {
	t.Helper()
	x, e := termtext.Parse(s)
	if e != api.OK {
		t.Fatal(s, e)
	}
	return x
}

// about returns a step with one term, and Refs.
func about(t *testing.T, kind int, s string, refs ...int) api.Step {
	t.Helper()
	return api.Step{Kind: kind, A: read(t, s), Refs: refs}
}

// between returns a StepCong.
func between(t *testing.T, a, b string, refs ...int) api.Step {
	t.Helper()
	return api.Step{Kind: api.StepCong, A: read(t, a), B: read(t, b), Refs: refs}
}

// use returns a StepRule whose substitution consists of names and terms, one after the other.
func use(t *testing.T, rule int, subs []string, refs ...int) api.Step {
	t.Helper()
	s := api.Step{Kind: api.StepRule, Rule: rule, Refs: refs}
	for k := 0; k < len(subs); k += 2 {
		s.Subs = append(s.Subs, api.Sub{Name: subs[k], Term: read(t, subs[k+1])})
	}
	return s
}

// written is a step with its line.
type written struct {
	step api.Step
	line string
}

// steps returns steps of all kinds. Their Refs are right for a place in a proof after 5 others.
func steps(t *testing.T) []written {
	t.Helper()
	return []written{
		{about(t, api.StepRefl, "x:8"), "(refl () x:8)"},
		{about(t, api.StepRefl, "(extract 4 4 (add x:8 1:8))"), "(refl () (extract 4 4 (add x:8 1:8)))"},
		{api.Step{Kind: api.StepSym, Refs: []int{4}}, "(sym (4))"},
		{api.Step{Kind: api.StepTrans, Refs: []int{0, 1}}, "(trans (0 1))"},
		{between(t, "(not x:8)", "(not 3:8)", 2), "(cong (2) (not x:8) (not 3:8))"},
		{between(t, "x:8", "y:8"), "(cong () x:8 y:8)"},
		{between(t, "(ite b:1 x:8 y:8)", "(ite b:1 y:8 x:8)", 0, 4, 3), "(cong (0 4 3) (ite b:1 x:8 y:8) (ite b:1 y:8 x:8))"},
		{use(t, 2, []string{"a", "x:8"}), "(rule () 2 ((a x:8)))"},
		{use(t, 0, nil), "(rule () 0 ())"},
		{use(t, 1023, []string{"a", "x:8", "b_1", "(zext 16 (not y:8))", "a", "1:1"}, 3, 3, 0), "(rule (3 3 0) 1023 ((a x:8) (b_1 (zext 16 (not y:8))) (a 1:1)))"},
		{use(t, -7, []string{"refl", "7:8"}), "(rule () -7 ((refl 7:8)))"},
		{use(t, 1, nil, 0, 1, 2, 3, 4, 0, 1, 2, 3, 4, 0, 1), "(rule (0 1 2 3 4 0 1 2 3 4 0 1) 1 ())"},
		{about(t, api.StepFold, "(add 1:8 2:8)"), "(fold () (add 1:8 2:8))"},
		{about(t, api.StepTop, "x:64"), "(top () x:64)"},
		{about(t, api.StepNode, "(and x:8 15:8)", 1, 2), "(node (1 2) (and x:8 15:8))"},
		{about(t, api.StepNode, "x:8"), "(node () x:8)"},
		{api.Step{Kind: api.StepMeet, Refs: []int{3, 3}}, "(meet (3 3))"},
		{api.Step{Kind: api.StepMove, Refs: []int{2, 1}}, "(move (2 1))"},
		{api.Step{Kind: api.StepSingle, Refs: []int{0}}, "(single (0))"},
		{api.Step{Kind: api.StepGiven, Rule: 3}, "(given () 3)"},
		{api.Step{Kind: api.StepGiven, Rule: math.MinInt}, "(given () -9223372036854775808)"},
	}
}

// TestLine checks P36.1 for Line.
func TestLine(t *testing.T) {
	for _, x := range steps(t) {
		if s := prooftext.Line(x.step); s != x.line {
			t.Errorf("%s, not %s", s, x.line)
		}
		// Fields that a kind does not use have no notation.
		noisy := x.step
		switch noisy.Kind {
		case api.StepRule, api.StepGiven:
			noisy.A, noisy.B = read(t, "z:4"), read(t, "z:4")
		case api.StepCong:
			noisy.Rule = 5
		case api.StepRefl, api.StepFold, api.StepTop, api.StepNode:
			noisy.Rule, noisy.B = 5, read(t, "z:4")
		default:
			noisy.Rule, noisy.A, noisy.B = 5, read(t, "z:4"), read(t, "z:4")
		}
		if noisy.Kind != api.StepRule {
			noisy.Subs = []api.Sub{{Name: "a", Term: read(t, "z:4")}}
		}
		if s := prooftext.Line(noisy); s != x.line {
			t.Errorf("%s, not %s", s, x.line)
		}
	}
	for _, kind := range []int{0, -1, 13, 256 + api.StepRefl, math.MaxInt, math.MinInt} {
		s := between(t, "x:8", "y:8", 0)
		s.Kind = kind
		if l := prooftext.Line(s); l != "" {
			t.Errorf("kind %d: %s", kind, l)
		}
	}
}

// TestLineOther checks P36.1 for steps that no proof has: Line prints what it gets.
func TestLineOther(t *testing.T) {
	bad := api.Term{Op: api.OpVar, Width: 8, Name: "X"}
	for _, x := range []written{
		{api.Step{Kind: api.StepRefl}, "(refl () ?)"}, {api.Step{Kind: api.StepRefl, A: bad, Refs: []int{7, -1}}, "(refl (7 -1) ?)"}, {api.Step{Kind: api.StepCong}, "(cong () ? ?)"}, {api.Step{Kind: api.StepNode, A: term.Make(api.OpNot, bad)}, "(node () (not ?))"}, {about(t, api.StepTop, "(add ?a:0 #c:0)"), "(top () (add ?a:0 #c:0))"},
		{api.Step{Kind: api.StepSym}, "(sym ())"}, {api.Step{Kind: api.StepTrans, Refs: []int{math.MaxInt, math.MinInt, 0}}, "(trans (9223372036854775807 -9223372036854775808 0))"}, {api.Step{Kind: api.StepGiven, Refs: []int{1}}, "(given (1) 0)"},
		// Names are atoms, and an empty one is an empty list.
		{api.Step{Kind: api.StepRule, Subs: []api.Sub{{}, {Name: "A b(", Term: read(t, "x:8")}}}, "(rule () 0 ((() ?) (A b( x:8)))"},
	} {
		if s := prooftext.Line(x.step); s != x.line {
			t.Errorf("%s, not %s", s, x.line)
		}
	}
}

// TestPrint checks P36.1 for Print.
func TestPrint(t *testing.T) {
	var p []api.Step
	want := ""
	for _, x := range steps(t) {
		p = append(p, x.step, api.Step{})
		want += x.line + "\n\n"
	}
	if s := prooftext.Print(p); s != want {
		t.Errorf("%s, not %s", s, want)
	}
	if s := prooftext.Print(nil); s != "" {
		t.Errorf("%q", s)
	}
}

// TestConcl checks P36.3 for Concl.
func TestConcl(t *testing.T) {
	f := api.Facts{Width: 8, Known: api.Known{Zeros: 240, Ones: 1}, Range: api.Range{Lo: 3, Hi: 13}}
	for _, x := range []struct {
		c    api.Concl
		want string
	}{
		{api.Concl{A: read(t, "x:8"), B: read(t, "(add x:8 0:8)")}, "x:8 = (add x:8 0:8)"}, {api.Concl{A: read(t, "x:8"), B: read(t, "y:4"), Facts: f}, "x:8 = y:4"},
		{api.Concl{IsFact: true, A: read(t, "(not x:8)"), Facts: f}, "(not x:8) in 240 1 3 13"}, {api.Concl{IsFact: true, A: read(t, "x:8"), B: read(t, "y:8")}, "x:8 in 0 0 0 0"},
		{api.Concl{IsFact: true, A: read(t, "x:64"), Facts: api.Facts{Known: api.Known{Zeros: math.MaxUint64, Ones: 1 << 63}, Range: api.Range{Lo: math.MaxUint64 - 1, Hi: 1<<63 + 1}}}, "x:64 in 18446744073709551615 9223372036854775808 18446744073709551614 9223372036854775809"},
		{api.Concl{}, "? = ?"}, {api.Concl{IsFact: true}, "? in 0 0 0 0"},
	} {
		if s := prooftext.Concl(x.c); s != x.want {
			t.Errorf("%s, not %s", s, x.want)
		}
	}
}

// TestExplain checks P36.3 for a proof and its conclusions.
func TestExplain(t *testing.T) {
	rules, at, e := ruletext.Parse("(rule zero (add ?a:8 0:8) ?a:8) (rule rest (urem ?a:8 16:8) ?a:8 (below ?a:8 16:8))")
	if e != api.OK {
		t.Fatal(at, e)
	}
	given := []api.Concl{{A: read(t, "y:8"), B: read(t, "(and x:8 15:8)")}}
	p := []api.Step{
		about(t, api.StepTop, "x:8"), about(t, api.StepNode, "15:8"), about(t, api.StepNode, "(and x:8 15:8)", 0, 1),
		use(t, 1, []string{"a", "(and x:8 15:8)"}, 2), {Kind: api.StepGiven}, {Kind: api.StepSym, Refs: []int{4}}, {Kind: api.StepTrans, Refs: []int{3, 5}},
		use(t, 0, []string{"a", "x:8"}), {Kind: api.StepMove, Refs: []int{5, 2}}, {Kind: api.StepMeet, Refs: []int{8, 8}}, between(t, "(not y:8)", "(not (and x:8 15:8))", 4), about(t, api.StepFold, "(neg 1:8)"), about(t, api.StepRefl, "z:4"), {Kind: api.StepSingle, Refs: []int{1}},
	}
	l, at, e := checker.Conclude(rules, given, p)
	if e != api.OK {
		t.Fatal(at, e)
	}
	const want = `0: x:8 in 0 0 0 255  top
1: 15:8 in 240 15 15 15  node
2: (and x:8 15:8) in 240 0 0 15  node 0 1
3: (urem (and x:8 15:8) 16:8) = (and x:8 15:8)  rule rest 2
4: y:8 = (and x:8 15:8)  given
5: (and x:8 15:8) = y:8  sym 4
6: (urem (and x:8 15:8) 16:8) = y:8  trans 3 5
7: (add x:8 0:8) = x:8  rule zero
8: y:8 in 240 0 0 15  move 5 2
9: y:8 in 240 0 0 15  meet 8 8
10: (not y:8) = (not (and x:8 15:8))  cong 4
11: (neg 1:8) = 255:8  fold
12: z:4 = z:4  refl
13: 15:8 = 15:8  single 1
`
	if s := prooftext.Explain(rules, p, l); s != want {
		t.Errorf("%s, not %s", s, want)
	}
	// As far as there are conclusions, and steps for them.
	lines := 0
	for k := range want {
		if want[k] != '\n' {
			continue
		}
		lines++
		if s := prooftext.Explain(rules, p, l[:lines]); s != want[:k+1] {
			t.Errorf("%d conclusions: %s", lines, s)
		}
		if s := prooftext.Explain(rules, p[:lines], l); s != want[:k+1] {
			t.Errorf("%d steps: %s", lines, s)
		}
	}
	if s := prooftext.Explain(rules, p, nil) + prooftext.Explain(rules, nil, l) + prooftext.Explain(nil, nil, nil); s != "" {
		t.Error(s)
	}
}

// TestExplainOther checks P36.3 for rules that there are not, unknown kinds, and steps that no proof has.
func TestExplainOther(t *testing.T) {
	rules := []api.Rule{{Name: "r"}, {}, {Name: "A b"}}
	l := []api.Concl{{A: read(t, "x:8"), B: read(t, "y:8")}}
	for _, x := range []struct {
		s    api.Step
		want string
	}{
		{use(t, 0, nil), "rule r"}, {use(t, 1, nil, 5), "rule  5"}, {use(t, 2, nil, -5, 3), "rule A b -5 3"}, {use(t, 3, nil), "rule ?"}, {use(t, -1, nil, 0), "rule ? 0"}, {use(t, math.MaxInt, nil), "rule ?"}, {use(t, math.MinInt, nil), "rule ?"},
		{api.Step{Kind: 13}, ""}, {api.Step{Refs: []int{2, 1}, Rule: 0}, " 2 1"}, {api.Step{Kind: api.StepGiven, Rule: 2}, "given"}, {api.Step{Kind: api.StepRefl, Refs: []int{math.MinInt}}, "refl -9223372036854775808"},
	} {
		if s := prooftext.Explain(rules, []api.Step{x.s}, l); s != "0: x:8 = y:8  "+x.want+"\n" {
			t.Errorf("%q, not %q", s, x.want)
		}
	}
	if s := prooftext.Explain(nil, []api.Step{use(t, 0, nil)}, l); s != "0: x:8 = y:8  rule ?\n" {
		t.Errorf("%q", s)
	}
}

// TestRefs checks that the steps of this file can be steps of proofs.
func TestRefs(t *testing.T) {
	var p []api.Step
	for range 5 {
		p = append(p, about(t, api.StepRefl, "x:8"))
	}
	for _, x := range steps(t) {
		p = append(p, x.step)
	}
	if at, e := proof.Check(p); e != api.OK {
		t.Error(at, e)
	}
}
