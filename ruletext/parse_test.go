package ruletext_test

import (
	"slices"
	"strconv"
	"strings"
	"testing"

	"saturate/api"
	"saturate/rule"
	"saturate/ruletext"
)

// TestParse checks the texts of valid rules and the errors of P29.2.
func TestParse(t *testing.T) {
	good := "(rule a ?a:8 ?a:8) "
	for _, c := range []struct {
		s  string
		at int
		e  api.Errno
	}{
		{"", 0, api.OK}, {" ; nothing\n", 0, api.OK}, {good, 0, api.OK}, {"(rule a ; a rule\n ?a:8\t?a:8)(rule b ?a:8 ?a:8)", 0, api.OK},
		// the errors of the s-expressions come before those of the rules
		{"(", 1, api.ErrParse}, {")", 0, api.ErrParse}, {good + ")", 19, api.ErrParse}, {"(rule A x) (", 12, api.ErrParse}, {good + good + "\x80", 38, api.ErrParse}, {strings.Repeat("(", 70), 64, api.ErrLong}, {"x " + strings.Repeat("(", 65) + "\x01", 66, api.ErrLong}, {strings.Repeat(" ", api.MaxText), 0, api.OK}, {strings.Repeat(" ", api.MaxText+1), 0, api.ErrLong}, {"x" + strings.Repeat(" ", api.MaxText), 0, api.ErrLong},
		// the errors of the rules come before repeated names
		{"x", 0, api.ErrParse}, {"()", 0, api.ErrParse}, {good + "x", 1, api.ErrParse}, {good + good + "(rule b ?a:65 ?a:8)", 2, api.ErrRange}, {good + good + "(rule B ?a:8 ?a:8)", 2, api.ErrName}, {"(rule A ?a:8 ?a:8) x", 0, api.ErrName}, {good + "(rule b ?a:8 ?b:8) (rule B ?a:8 ?a:8) x", 1, api.ErrBind},
		{good + good, 1, api.ErrDup}, {good + "(rule b ?a:8 ?a:8) (rule a ?b:4 ?b:4)", 2, api.ErrDup}, {good + "(rule b ?a:8 ?a:8) (rule b ?a:8 ?a:8)" + good, 2, api.ErrDup}, {"(rule b ?a:8 ?a:8)" + good + "(rule c ?a:8 ?a:8)" + good + "(rule b ?a:8 ?a:8)", 3, api.ErrDup},
	} {
		l, at, e := ruletext.Parse(c.s)
		if at != c.at || e != c.e || e != api.OK && len(l) != 0 {
			t.Errorf("%.50q: %v, %d, %d", c.s, l, at, e)
		}
	}
}

// TestParsePrint checks that Parse inverts Print (P29.2, P29.4).
func TestParsePrint(t *testing.T) {
	var rules []api.Rule
	text := ""
	for _, x := range valid(t) {
		rules = append(rules, x.rule)
		text += x.text + "\n"
	}
	for n := range len(rules) + 1 {
		part := strings.Join(slices.Collect(strings.Lines(text))[:n], "")
		if s := ruletext.Print(rules[:n]); s != part {
			t.Fatalf("%q, not %q", s, part)
		}
		l, at, e := ruletext.Parse(part)
		if at != 0 || e != api.OK || !slices.EqualFunc(l, rules[:n], rule.Same) {
			t.Fatal(l, at, e)
		}
	}
}

// many returns the text of rules with different names.
func many(n int) string {
	var s strings.Builder
	for i := range n {
		s.WriteString("(rule r" + strconv.Itoa(i) + " ?a:8 ?a:8)\n")
	}
	return s.String()
}

// TestParseMany checks the last error of P29.2.
func TestParseMany(t *testing.T) {
	full := many(api.MaxRules)
	if l, at, e := ruletext.Parse(full); len(l) != api.MaxRules || at != 0 || e != api.OK || ruletext.Print(l) != full {
		t.Error(len(l), at, e)
	}
	more := many(api.MaxRules + 1)
	for s, want := range map[string]struct {
		at int
		e  api.Errno
	}{
		more:                       {0, api.ErrLong},
		more + more:                {api.MaxRules + 1, api.ErrDup},
		full + "(rule r7 1:1 1:1)": {api.MaxRules, api.ErrDup},
		more + "x":                 {api.MaxRules + 1, api.ErrParse},
		more + ")":                 {len(more), api.ErrParse},
	} {
		if l, at, e := ruletext.Parse(s); len(l) != 0 || at != want.at || e != want.e {
			t.Errorf("%d bytes: %d rules, %d, %d", len(s), len(l), at, e)
		}
	}
}

// TestParseDeep checks P29.4 at the limits of depth and size.
func TestParseDeep(t *testing.T) {
	// The pattern begins one level below the rule, and so it may have MaxDepth - 1 levels itself.
	for depth := api.MaxDepth - 3; depth <= api.MaxDepth; depth++ {
		p := pattern(t, strings.Repeat("(not ", 20)+"?a:8"+strings.Repeat(")", 20))
		for n := 21; n < depth; n++ {
			p = api.Term{Op: api.OpNeg, Width: 8, Args: []api.Term{p}}
		}
		r := api.Rule{Name: "deep", Left: []api.Atom{{Pattern: p}}, Right: p}
		if e := rule.Check(r); e != api.OK {
			t.Fatal(depth, e)
		}
		if got, e := ruletext.Read(ruletext.Write(r)); e != api.OK || !rule.Same(got, r) {
			t.Error(depth, e)
		}
		l, _, e := ruletext.Parse(ruletext.Print([]api.Rule{r}))
		if ok := e == api.OK && len(l) == 1 && rule.Same(l[0], r); ok != (depth < api.MaxDepth) {
			t.Error(depth, e)
		}
	}
}
