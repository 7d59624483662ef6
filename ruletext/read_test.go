package ruletext_test

import (
	"slices"
	"strings"
	"testing"

	"saturate/api"
	"saturate/rule"
	"saturate/ruletext"
	"saturate/sexpr"
	"saturate/termtext"
)

// expression reads an s-expression.
func expression(t *testing.T, s string) api.Sexp {
	t.Helper()
	e, _, code := sexpr.Parse(s)
	if code != api.OK {
		t.Fatalf("%s: %d", s, code)
	}
	return e
}

// pattern reads a pattern or a term, and returns the zero Term for an empty text.
func pattern(t *testing.T, s string) api.Term {
	t.Helper()
	if s == "" {
		return api.Term{}
	}
	p, e := termtext.Parse(s)
	if e != api.OK {
		t.Fatalf("%s: %d", s, e)
	}
	return p
}

// atoms returns atoms, which are separated by semicolons and have a Root if an equals sign follows it.
func atoms(t *testing.T, s string) []api.Atom {
	t.Helper()
	var l []api.Atom
	for part := range strings.SplitSeq(s, ";") {
		root, text, ok := strings.Cut(part, "=")
		if !ok {
			root, text = "", part
		}
		l = append(l, api.Atom{Root: root, Pattern: pattern(t, text)})
	}
	return l
}

// guarded returns a guard.
func guarded(t *testing.T, kind int, a, b string) api.Guard {
	t.Helper()
	return api.Guard{Kind: kind, A: pattern(t, a), B: pattern(t, b)}
}

// written is a text with the rule that it denotes.
type written struct {
	text string
	rule api.Rule
}

// valid returns valid rules with their notations.
func valid(t *testing.T) []written {
	t.Helper()
	return []written{
		{"(rule zero (add ?a:8 0:8) ?a:8)", api.Rule{Name: "zero", Left: atoms(t, "(add ?a:8 0:8)"), Right: pattern(t, "?a:8")}},
		{"(rule r ?a:8 ?a:8)", api.Rule{Name: "r", Left: atoms(t, "?a:8"), Right: pattern(t, "?a:8")}},
		{"(rule all #a:8 (eval (add #a:8 0:8)))", api.Rule{Name: "all", Left: atoms(t, "#a:8"), Right: pattern(t, "(eval (add #a:8 0:8))")}},
		{"(rule shift (mul ?a:0 #c:0) (mul ?a:0 (eval (add #c:0 0:0))) (if (ult 1:0 #c:0)))", api.Rule{Name: "shift", Left: atoms(t, "(mul ?a:0 #c:0)"), Right: pattern(t, "(mul ?a:0 (eval (add #c:0 0:0)))"), Guards: []api.Guard{guarded(t, api.GuardPred, "(ult 1:0 #c:0)", "")}}},
		{"(rule two (all (_ (add ?a:8 ?b:8)) (b (neg ?a:8))) 0:8)", api.Rule{Name: "two", Left: atoms(t, "(add ?a:8 ?b:8);b=(neg ?a:8)"), Right: pattern(t, "0:8")}},
		{"(rule if (all (r ?a:4)) ?r:4)", api.Rule{Name: "if", Left: atoms(t, "r=?a:4"), Right: pattern(t, "?r:4")}},
		{"(rule rule (all (all ?a:4) (rule ?b:4) (_ ?c:4) (_ ?a:4)) ?all:4)", api.Rule{Name: "rule", Left: atoms(t, "all=?a:4;rule=?b:4;?c:4;?a:4"), Right: pattern(t, "?all:4")}},
		{"(rule g (or ?a:8 #c:8) (extract 0 8 ?a:8) (zeros ?a:8 #c:8) (equal (not ?a:8) 3:8) (below ?a:8 4:8) (if (eq #c:8 1:8)) (equal #c:8 #c:8))", api.Rule{Name: "g", Left: atoms(t, "(or ?a:8 #c:8)"), Right: pattern(t, "(extract 0 8 ?a:8)"), Guards: []api.Guard{
			guarded(t, api.GuardZeros, "?a:8", "#c:8"), guarded(t, api.GuardEqual, "(not ?a:8)", "3:8"), guarded(t, api.GuardBelow, "?a:8", "4:8"), guarded(t, api.GuardPred, "(eq #c:8 1:8)", ""), guarded(t, api.GuardEqual, "#c:8", "#c:8")}}},
	}
}

// TestReadWrite checks P29.1 and P29.4 for valid rules.
func TestReadWrite(t *testing.T) {
	for _, x := range valid(t) {
		e := expression(t, x.text)
		if r, code := ruletext.Read(e); code != api.OK || !rule.Same(r, x.rule) {
			t.Errorf("%s: %v, %d", x.text, r, code)
		}
		if got := ruletext.Write(x.rule); !sexpr.Same(got, e) {
			t.Errorf("%s: %s", x.text, sexpr.Print(got))
		}
	}
}

// TestReadSingle checks that an atom without a Root may be written in a list, too (P29.1).
func TestReadSingle(t *testing.T) {
	want := api.Rule{Name: "a", Left: atoms(t, "(not ?a:8)"), Right: pattern(t, "?a:8")}
	for _, s := range []string{"(rule a (all (_ (not ?a:8))) ?a:8)", "(rule a (not ?a:8) ?a:8)"} {
		if r, e := ruletext.Read(expression(t, s)); e != api.OK || !rule.Same(r, want) {
			t.Errorf("%s: %v, %d", s, r, e)
		}
	}
}

// forms are texts that do not have the form of a rule, although their patterns have errors, too.
var forms = []string{
	"rule", "x", "()", "(rule)", "(rule a)", "(rule a x)", "(rule a ?A:8)", "(Rule a x y)", "(a rule x y)", "((rule) a x y)", "(() a x y)", "((rule a x y))", "(rule () x y)", "(rule (a) x y)", "(all a x y)",
	"(rule a (all x) y)", "(rule a (all ()) y)", "(rule a (all (_)) y)", "(rule a (all (_ x y)) y)", "(rule a (all (() x)) y)", "(rule a (all ((_) x)) y)", "(rule a (all (_ x) _) y)", "(rule a (all (_ x) (y)) y)", "(rule a (all (_ x) (r x) (() x)) y)", "(rule a (all all) y)",
	"(rule a x y z)", "(rule a x y ?)", "(rule a x y if)", "(rule a x y ())", "(rule a x y (if))", "(rule a x y (if x y))", "(rule a x y (equal))", "(rule a x y (equal x))", "(rule a x y (equal x y z))", "(rule a x y (zeros x))", "(rule a x y (zeros x y z))", "(rule a x y (below x))", "(rule a x y (below x y z))",
	"(rule a x y (eq x y))", "(rule a x y (If x))", "(rule a x y ((if) x))", "(rule a x y (() x))", "(rule a x y (if x) (equal x x) (zeros x x) (below x))", "(rule a x y (below x x) y)", "(rule a x y ((if x)))",
}

// TestReadForm checks the first error of P29.1.
func TestReadForm(t *testing.T) {
	for _, s := range forms {
		if r, e := ruletext.Read(expression(t, s)); e != api.ErrParse || !rule.Same(r, api.Rule{}) {
			t.Errorf("%s: %v, %d", s, r, e)
		}
		// With other patterns the form is the same, and still wrong.
		fixed := strings.NewReplacer(" x", " ?x:8", " y", " ?x:8").Replace(s)
		if r, e := ruletext.Read(expression(t, fixed)); e != api.ErrParse || !rule.Same(r, api.Rule{}) {
			t.Errorf("%s: %v, %d", fixed, r, e)
		}
	}
	// An s-expression with an Atom is an atom, whatever its List is.
	good := expression(t, "(rule a (all (r ?a:8)) ?a:8 (if 1:1))")
	for at, e := range map[string]api.Sexp{
		"the rule":  {Atom: "rule", List: good.List},
		"the Left":  {List: []api.Sexp{good.List[0], good.List[1], {Atom: "all", List: good.List[2].List}, good.List[3]}},
		"a guard":   {List: []api.Sexp{good.List[0], good.List[1], good.List[2], good.List[3], {Atom: "if", List: good.List[4].List}}},
		"an atom":   {List: []api.Sexp{good.List[0], good.List[1], {List: []api.Sexp{good.List[2].List[0], {Atom: "r", List: good.List[2].List[1].List}}}, good.List[3]}},
		"the zero":  {},
		"no rule":   {List: make([]api.Sexp, 4)},
		"no rule 5": {List: make([]api.Sexp, 5)},
	} {
		if r, code := ruletext.Read(e); code != api.ErrParse || !rule.Same(r, api.Rule{}) {
			t.Errorf("%s: %v, %d", at, r, code)
		}
	}
	junk := api.Sexp{Atom: "rule", List: []api.Sexp{{Atom: "a"}}}
	if r, e := ruletext.Read(api.Sexp{List: append([]api.Sexp{junk}, good.List[1:]...)}); e != api.OK || r.Left[0].Root != "r" {
		t.Error(r, e)
	}
}

// TestReadPatterns checks that the first error of a pattern counts, and that it comes before those of the rule (P29.1).
func TestReadPatterns(t *testing.T) {
	// Each place has a pattern with another error, as termtext.Read says.
	bad := map[string]api.Errno{"()": api.ErrParse, "all": api.ErrParse, "?": api.ErrParse, "(add ?a:8)": api.ErrParse, "(rule x)": api.ErrParse, "?A:8": api.ErrName, ":8": api.ErrName, "?a:65": api.ErrRange, "256:8": api.ErrWidth, "(add ?a:8 ?b:4)": api.ErrWidth, "(eval ?A:8)": api.ErrName}
	places := []string{"(rule A @ ?z:8)", "(rule A ?a:8 @)", "(rule A (all (R @)) ?z:8)", "(rule A (all (_ ?a:8) (R ?a:4) (_ @)) ?z:8)", "(rule A ?a:8 ?a:8 (if @))", "(rule A ?a:8 ?a:8 (equal @ ?a:8))", "(rule A ?a:8 ?a:8 (equal ?a:8 @))", "(rule A ?a:8 ?a:8 (zeros @ x:8))", "(rule A ?a:8 ?a:8 (zeros x:8 @))", "(rule A ?a:8 ?a:8 (below @ 1:8))", "(rule A ?a:8 ?a:8 (below ?a:8 @))", "(rule A ?a:8 ?a:8 (if ?a:1) (if ?b:1) (equal ?a:1 @))"}
	for s, want := range bad {
		for _, place := range places {
			text := strings.ReplaceAll(place, "@", s)
			if r, e := ruletext.Read(expression(t, text)); e != want || !rule.Same(r, api.Rule{}) {
				t.Errorf("%s: %v, %d, not %d", text, r, e, want)
			}
		}
	}
	// In the order of the text, the first one counts.
	order := "(rule A (all (_ 1) (R 2)) 3 (if 4) (equal 5 6) (zeros 7 8) (below 9 0))"
	for first := range 10 {
		s := order
		for k, digit := range "1234567890" {
			p := "?a:8"
			switch {
			case k == first:
				p = "?a:65"
			case k > first && k%2 == 0:
				p = "256:8"
			case k > first:
				p = "?A:8"
			}
			s = strings.Replace(s, " "+string(digit), " "+p, 1)
		}
		if r, e := ruletext.Read(expression(t, s)); e != api.ErrRange || !rule.Same(r, api.Rule{}) {
			t.Errorf("%s: %v, %d", s, r, e)
		}
	}
}

// TestReadCheck checks the last error of P29.1, that of rule.Check.
func TestReadCheck(t *testing.T) {
	for s, want := range map[string]api.Errno{
		"(rule A ?a:8 ?a:8)": api.ErrName, "(rule _ ?a:8 ?a:8)": api.ErrName, "(rule 1 ?a:8 ?a:8)": api.ErrName, "(rule abcdefghijklmnop ?a:8 ?a:8)": api.OK, "(rule abcdefghijklmnopq ?a:8 ?a:8)": api.ErrName,
		"(rule a (all) ?a:8)": api.ErrLong, "(rule a (all (_ ?a:8) (_ ?a:8) (_ ?a:8) (_ ?a:8)) ?a:8)": api.OK, "(rule a (all (_ ?a:8) (_ ?a:8) (_ ?a:8) (_ ?a:8) (_ ?a:8)) ?a:8)": api.ErrLong,
		"(rule a ?a:8 ?a:8 (if 1:1) (if 1:1) (if 1:1) (if 1:1) (if 1:1) (if 1:1) (if 1:1) (if 1:1))": api.OK, "(rule a ?a:8 ?a:8 (if 1:1) (if 1:1) (if 1:1) (if 1:1) (if 1:1) (if 1:1) (if 1:1) (if 1:1) (if 1:1))": api.ErrLong,
		"(rule a x:8 ?a:8)": api.ErrOp, "(rule a (eval 1:8) 1:8)": api.ErrOp, "(rule a ?a:8 x:8)": api.ErrOp, "(rule a (all (R ?a:8)) ?a:8)": api.ErrName, "(rule a (all (__ ?a:8)) ?a:8)": api.ErrName, "(rule a (all (_a ?a:8)) ?a:8)": api.ErrName,
		"(rule a (all (r ?r:8)) ?r:8)": api.OK, "(rule a (all (r ?a:8) (r ?b:4)) ?r:8)": api.ErrBind, "(rule a ?a:8 ?b:8)": api.ErrBind, "(rule a ?a:8 1:4)": api.ErrWidth, "(rule a ?a:8 ?a:8 (if 1:8))": api.ErrWidth, "(rule a ?a:8 ?a:8 (zeros 1:8 1:8))": api.ErrArg, "(rule a ?a:8 ?a:8 (below ?b:8 1:8))": api.ErrBind, "(rule a ?a:8 ?a:8 (equal ?a:8 1:4))": api.ErrWidth, "(rule a ?a:8 ?a:8 (equal ?a:8 y:8))": api.ErrOp,
	} {
		r, e := ruletext.Read(expression(t, s))
		if e != want || e != api.OK && !rule.Same(r, api.Rule{}) {
			t.Errorf("%s: %v, %d, not %d", s, r, e, want)
		}
	}
}

// scramble changes all lists in an s-expression.
func scramble(e api.Sexp) {
	for i := range e.List {
		scramble(e.List[i])
		e.List[i] = api.Sexp{Atom: "!"}
	}
}

// scrambleTerm changes all operands in a term.
func scrambleTerm(p api.Term) {
	for i := range p.Args {
		scrambleTerm(p.Args[i])
		p.Args[i] = api.Term{}
	}
}

// scrambleRule changes all parts of a rule that have their own memory.
func scrambleRule(r api.Rule) {
	scrambleTerm(r.Right)
	for i := range r.Left {
		scrambleTerm(r.Left[i].Pattern)
		r.Left[i] = api.Atom{}
	}
	for i := range r.Guards {
		scrambleTerm(r.Guards[i].A)
		scrambleTerm(r.Guards[i].B)
		r.Guards[i] = api.Guard{}
	}
}

// TestMemory checks general rule 5.
func TestMemory(t *testing.T) {
	for i, x := range valid(t) {
		e := expression(t, x.text)
		r, _ := ruletext.Read(e)
		scramble(e)
		if !rule.Same(r, x.rule) {
			t.Errorf("%s: %v", x.text, r)
		}
		e = ruletext.Write(r)
		scrambleRule(r)
		if sexpr.Print(e) != x.text {
			t.Errorf("%s: %s", x.text, sexpr.Print(e))
		}
		scramble(ruletext.Write(x.rule))
		if again := valid(t)[i]; !rule.Same(again.rule, x.rule) {
			t.Errorf("%s: %v", x.text, x.rule)
		}
	}
	texts := slices.Collect(strings.Lines(ruletext.Basic()))
	l, _, _ := ruletext.Parse(ruletext.Basic())
	for i, r := range l {
		scrambleRule(r)
		if i+1 < len(l) && ruletext.Print(l[i+1:i+2]) != texts[i+1] {
			t.Errorf("%s: %s", texts[i+1], ruletext.Print(l[i+1:i+2]))
		}
	}
}
