package ruletext_test

import (
	"math/rand/v2"
	"slices"
	"strings"
	"testing"

	"saturate/api"
	"saturate/eval"
	"saturate/rule"
	"saturate/ruletext"
	"saturate/subst"
	"saturate/term"
	"saturate/termtext"
)

// basic returns the basic rules.
func basic(t *testing.T) []api.Rule {
	t.Helper()
	l, at, e := ruletext.Parse(ruletext.Basic())
	if at != 0 || e != api.OK {
		t.Fatal(at, e)
	}
	return l
}

// TestBasic checks the form of the basic rules (P29.3).
func TestBasic(t *testing.T) {
	l := basic(t)
	if len(l) < 24 || ruletext.Print(l) != ruletext.Basic() || strings.Count(ruletext.Basic(), "\n") != len(l) {
		t.Error(len(l), ruletext.Print(l))
	}
	names := map[string]bool{}
	for _, r := range l {
		if names[r.Name] || !rule.Generic(r) {
			t.Error(r)
		}
		names[r.Name] = true
	}
}

// TestBasicSound checks that no basic rule has a counterexample at the widths of P29.3.
func TestBasicSound(t *testing.T) {
	for _, r := range basic(t) {
		if ok, w, e := rule.SoundUpTo(r, 4); !ok || w != 0 || e != api.OK {
			t.Error(r.Name, ok, w, e)
		}
	}
}

// TestBasicWide checks that the basic rules hold at all widths, for random and for special values.
func TestBasicWide(t *testing.T) {
	r := rand.New(rand.NewPCG(29, 1))
	for _, generic := range basic(t) {
		held := 0
		for w := 1; w <= api.MaxWidth; w++ {
			x, e := rule.At(generic, w)
			if e != api.OK || rule.Check(x) != api.OK || rule.Generic(x) {
				t.Fatal(generic.Name, w, e)
			}
			for range 60 {
				hyps, left, right := rule.Equation(x)
				var env []api.Bind
				for _, v := range term.Vars(left) {
					special := []uint64{0, 1, 2, 1 << r.IntN(64), ^uint64(0), uint64(w), r.Uint64()}
					env = append(env, api.Bind{Name: v.Name, Val: special[r.IntN(len(special))]})
				}
				if slices.ContainsFunc(hyps, func(h api.Term) bool { return value(t, h, env) != 1 }) {
					continue
				}
				held++
				if value(t, left, env) != value(t, right, env) {
					t.Fatal(x, env)
				}
			}
		}
		if held < 100 {
			t.Error(generic.Name, held)
		}
	}
}

// value returns the value of a term.
func value(t *testing.T, u api.Term, env []api.Bind) uint64 {
	t.Helper()
	val, e := eval.Eval(u, env)
	if e != api.OK {
		t.Fatal(u, e)
	}
	return val
}

// TestBasicRules checks that the basic rules include those that P29.3 names.
func TestBasicRules(t *testing.T) {
	var want []string
	for _, op := range []string{"add", "mul", "and", "or", "xor"} {
		want = append(want, "("+op+" ?a:0 ?b:0) ("+op+" ?b:0 ?a:0)")
	}
	for _, op := range []string{"add", "and", "or", "xor"} {
		want = append(want, "("+op+" ("+op+" ?a:0 ?b:0) ?c:0) ("+op+" ?a:0 ("+op+" ?b:0 ?c:0))")
	}
	for _, left := range []string{"(add ?a:0 0:0)", "(mul ?a:0 1:0)", "(and ?a:0 ?a:0)", "(or ?a:0 ?a:0)", "(not (not ?a:0))"} {
		want = append(want, left+" ?a:0")
	}
	for _, left := range []string{"(mul ?a:0 0:0)", "(xor ?a:0 ?a:0)", "(sub ?a:0 ?a:0)"} {
		want = append(want, left+" 0:0")
	}
	want = append(want, "(neg ?a:0) (add (not ?a:0) 1:0)", "(mul ?a:0 2:0) (shl ?a:0 1:0)", "(shl ?a:0 #c:0) (mul ?a:0 (eval (shl 1:0 #c:0)))")
	got := map[string]bool{}
	for _, r := range basic(t) {
		if rule.Simple(r) {
			got[termtext.Print(r.Left[0].Pattern)+" "+termtext.Print(r.Right)] = true
		}
	}
	for _, s := range want {
		if !got[s] {
			t.Error(s)
		}
	}
}

// TestBasicUse checks that the guards and evals of the basic rules do what they are meant for.
func TestBasicUse(t *testing.T) {
	found := false
	for _, r := range basic(t) {
		x, _ := rule.At(r, 8)
		subs, ok := subst.Match(x.Left[0].Pattern, pattern(t, "(shl x:8 3:8)"))
		if !ok || termtext.Print(x.Left[0].Pattern) != "(shl ?a:8 #c:8)" {
			continue
		}
		u, e := subst.Fill(x.Right, subs)
		if e != api.OK || termtext.Print(u) != "(mul x:8 8:8)" {
			t.Error(u, e)
		}
		found = true
	}
	if !found {
		t.Error("no rule for shl")
	}
}
