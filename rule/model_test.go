package rule_test

import (
	"maps"
	"math/rand/v2"
	"slices"
	"testing"

	"saturate/api"
	"saturate/bits"
	"saturate/eval"
	"saturate/rule"
	"saturate/subst"
	"saturate/term"
)

// The names of the random rules; the first ones are those of holes.
var names = []string{"a", "b", "r", "c"}

const holeNames = 3

// leaf returns a hole, a num or a const of width 2.
func leaf(r *rand.Rand) api.Term {
	switch k := r.IntN(6); k {
	case 0, 1:
		return api.Term{Op: api.OpHole, Width: 2, Name: names[k]}
	case 2:
		return api.Term{Op: api.OpHole, Width: 2, Name: names[r.IntN(2)]}
	case 3:
		return api.Term{Op: api.OpNum, Width: 2, Name: "c"}
	}
	return term.Const(2, r.Uint64N(4))
}

// compound returns a pattern whose leaves some function returns.
func compound(r *rand.Rand, depth int, leaf func(r *rand.Rand) api.Term) api.Term {
	if depth == 0 || r.IntN(4) == 0 {
		return leaf(r)
	}
	op := []api.Op{api.OpNot, api.OpAnd, api.OpOr, api.OpXor, api.OpAdd, api.OpSub, api.OpUdiv, api.OpShl}[r.IntN(8)]
	args := []api.Term{compound(r, depth-1, leaf)}
	if op != api.OpNot {
		args = append(args, compound(r, depth-1, leaf))
	}
	return term.Make(op, args...)
}

// closed returns a leaf of a pattern without holes.
func closed(r *rand.Rand) api.Term {
	if r.IntN(2) == 0 {
		return api.Term{Op: api.OpNum, Width: 2, Name: "c"}
	}
	return term.Const(2, r.Uint64N(4))
}

// randomGuard returns a guard of a random rule.
func randomGuard(r *rand.Rand) api.Guard {
	c := api.Guard{Kind: 1 + r.IntN(4), A: api.Term{Op: api.OpHole, Width: 2, Name: names[r.IntN(2)]}, B: compound(r, 1, closed)}
	switch c.Kind {
	case api.GuardPred:
		c.A, c.B = term.Make(api.OpUlt, c.B, compound(r, 1, closed)), api.Term{}
	case api.GuardEqual:
		c.A, c.B = compound(r, 1, leaf), compound(r, 1, leaf)
	}
	return c
}

// randomRule returns a rule whose parts fit together if the atoms have all the names.
func randomRule(r *rand.Rand) api.Rule {
	x := api.Rule{Name: "r", Left: []api.Atom{{Pattern: compound(r, 2, leaf)}}, Right: compound(r, 2, leaf)}
	if r.IntN(3) == 0 {
		x.Right = term.Make(api.OpXor, x.Right, api.Term{Op: api.OpEval, Width: 2, Args: []api.Term{compound(r, 1, closed)}})
	}
	if r.IntN(3) == 0 {
		x.Left[0].Root = names[r.IntN(holeNames)]
	}
	for r.IntN(2) == 0 {
		x.Left = append(x.Left, api.Atom{Root: append(names[:holeNames:holeNames], "")[r.IntN(4)], Pattern: compound(r, 1, leaf)})
	}
	for r.IntN(2) == 0 {
		x.Guards = append(x.Guards, randomGuard(r))
	}
	if r.IntN(8) == 0 {
		x.Right = x.Left[0].Pattern
	}
	return x
}

// instance returns the value of a pattern for values of all names.
func instance(t *testing.T, p api.Term, env []api.Bind) uint64 {
	t.Helper()
	var subs []api.Sub
	for _, b := range env {
		subs = append(subs, api.Sub{Name: b.Name, Term: term.Const(2, b.Val)})
	}
	filled, e := subst.Fill(p, subs)
	if e != api.OK {
		t.Fatal(p, e)
	}
	val, e := eval.Eval(filled, nil)
	if e != api.OK {
		t.Fatal(p, e)
	}
	return val
}

// satisfied reports whether the Roots and guards of a rule are satisfied, as the definitions of chapters 27 and 28 say.
func satisfied(t *testing.T, x api.Rule, env []api.Bind) bool {
	t.Helper()
	for _, a := range x.Left {
		if a.Root != "" && instance(t, api.Term{Op: api.OpHole, Width: 2, Name: a.Root}, env) != instance(t, a.Pattern, env) {
			return false
		}
	}
	for _, c := range x.Guards {
		a := instance(t, c.A, env)
		ok := a == 1
		switch c.Kind {
		case api.GuardEqual:
			ok = a == instance(t, c.B, env)
		case api.GuardZeros:
			ok = a&instance(t, c.B, env) == 0
		case api.GuardBelow:
			ok = a < instance(t, c.B, env)
		}
		if !ok {
			return false
		}
	}
	return true
}

// involved returns the names that occur in the equation of a rule: all but those that only atoms without a Root have.
func involved(x api.Rule) []string {
	found := map[string]bool{}
	note := func(l ...api.Term) {
		for _, p := range l {
			for sub := range term.All(p) {
				if sub.Name != "" {
					found[sub.Name] = true
				}
			}
		}
	}
	note(x.Left[0].Pattern, x.Right)
	for _, a := range x.Left {
		if a.Root != "" {
			note(a.Pattern)
			found[a.Root] = true
		}
	}
	for _, c := range x.Guards {
		note(c.A, c.B)
	}
	return slices.Sorted(maps.Keys(found))
}

// refute returns the first assignment for which a rule does not hold, and whether there is one.
func refute(t *testing.T, x api.Rule) ([]api.Bind, bool) {
	t.Helper()
	l := involved(x)
	for row := range uint64(1) << (2 * len(l)) {
		var env []api.Bind
		for k, name := range l {
			env = append(env, api.Bind{Name: name, Val: bits.Cut(2, row>>(2*k))})
		}
		if satisfied(t, x, env) && instance(t, x.Left[0].Pattern, env) != instance(t, x.Right, env) {
			return env, true
		}
	}
	return nil, false
}

// TestModel checks Sound of P28.4, and P28.5, for random rules.
func TestModel(t *testing.T) {
	r := rand.New(rand.NewPCG(28, 4))
	sound, refuted, conditional := 0, 0, 0
	for range 20000 {
		x := randomRule(r)
		if rule.Check(x) != api.OK {
			continue
		}
		env, wrong := refute(t, x)
		ok, at, e := rule.Sound(x)
		if e != api.OK || ok == wrong || !slices.Equal(at, env) {
			t.Fatalf("%v: %v, %v, %d, not %v", x, ok, at, e, env)
		}
		if ok, at, e := rule.SoundUpTo(x, 5); e != api.OK || ok == wrong || ok != (at == 0) || !ok && at != 1 {
			t.Fatalf("%v: %v, %d, %d", x, ok, at, e)
		}
		switch {
		case wrong:
			refuted++
		case rule.Simple(x):
			sound++
		default:
			conditional++
		}
		checkReverse(t, x)
	}
	if sound < 200 || refuted < 1000 || conditional < 200 {
		t.Error(sound, refuted, conditional)
	}
}

// checkReverse checks P28.5 for the reverse of a valid rule: it is sound if the rule is.
func checkReverse(t *testing.T, x api.Rule) {
	t.Helper()
	y, e := rule.Reverse(x)
	if e != api.OK {
		return
	}
	z, e := rule.Reverse(y)
	if e != api.OK || !rule.Same(x, z) {
		t.Fatalf("%v: %v, %v, %d", x, y, z, e)
	}
	first, _, _ := rule.Sound(x)
	second, _, e := rule.Sound(y)
	if e != api.OK || first != second {
		t.Fatalf("%v: %v, %v", x, first, second)
	}
}
