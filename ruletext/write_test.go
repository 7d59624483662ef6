package ruletext_test

import (
	"math"
	"testing"

	"saturate/api"
	"saturate/ruletext"
	"saturate/sexpr"
)

// TestWriteInvalid checks Write and Print for rules that are not valid (P29.1).
func TestWriteInvalid(t *testing.T) {
	a, x := pattern(t, "?a:8"), pattern(t, "x:8")
	left := []api.Atom{{Pattern: a}}
	nothing := api.Term{}
	for _, c := range []struct {
		rule api.Rule
		want string
	}{
		{api.Rule{}, "(rule () (all) ?)"},
		{api.Rule{Name: "A b", Left: left, Right: x}, "(rule A b ?a:8 x:8)"},
		{api.Rule{Name: "a", Left: []api.Atom{{}}, Right: nothing}, "(rule a ? ?)"},
		{api.Rule{Name: "a", Left: []api.Atom{{Root: "_", Pattern: a}}, Right: x}, "(rule a (all (_ ?a:8)) x:8)"},
		{api.Rule{Name: "a", Left: []api.Atom{{Pattern: a}, {Pattern: nothing}, {Root: "R", Pattern: x}}, Right: api.Term{Op: api.OpConst, Width: 65}}, "(rule a (all (_ ?a:8) (_ ?) (R x:8)) ?)"},
		{api.Rule{Name: "a", Left: left, Right: a, Guards: []api.Guard{{Kind: api.GuardPred, A: x, B: x}, {Kind: api.GuardEqual}, {Kind: api.GuardZeros, A: nothing, B: x}, {Kind: api.GuardBelow, A: x}}}, "(rule a ?a:8 ?a:8 (if x:8) (equal ? ?) (zeros ? x:8) (below x:8 ?))"},
		{api.Rule{Name: "a", Left: left, Right: a, Guards: []api.Guard{{Kind: 0, A: a, B: a}, {Kind: 5, A: a}, {Kind: -1}, {Kind: math.MinInt}, {Kind: math.MaxInt}}}, "(rule a ?a:8 ?a:8 ? ? ? ? ?)"},
		{api.Rule{Name: "a", Left: make([]api.Atom, 6), Right: a}, "(rule a (all (_ ?) (_ ?) (_ ?) (_ ?) (_ ?) (_ ?)) ?a:8)"},
	} {
		if got := sexpr.Print(ruletext.Write(c.rule)); got != c.want {
			t.Errorf("%v: %s, not %s", c.rule, got, c.want)
		}
		if got := ruletext.Print([]api.Rule{c.rule, c.rule}); got != c.want+"\n"+c.want+"\n" {
			t.Errorf("%v: %q", c.rule, got)
		}
	}
	// An empty name is an empty list, and a name is an atom.
	for _, name := range []string{"", "a", "Z"} {
		e := ruletext.Write(api.Rule{Name: name, Left: left, Right: a})
		if want := (api.Sexp{Atom: name}); len(e.List) != 4 || !sexpr.Same(e.List[1], want) {
			t.Errorf("%q: %v", name, e)
		}
	}
	if s := ruletext.Print(nil); s != "" {
		t.Errorf("%q", s)
	}
}
