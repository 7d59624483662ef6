package checker_test

import (
	"math/rand/v2"
	"slices"
	"testing"

	"saturate/api"
	"saturate/checker"
	"saturate/rule"
	"saturate/ruletext"
	"saturate/subst"
	"saturate/term"
)

// soundRules are rules of width 2 that hold for all values, with premises of all kinds.
const soundRules = `(rule comm (add ?a:2 ?b:2) (add ?b:2 ?a:2))
(rule zero (add ?a:2 0:2) ?a:2)
(rule back ?a:2 (add ?a:2 0:2))
(rule self (xor ?a:2 ?a:2) 0:2)
(rule low (and ?a:2 #c:2) 0:2 (zeros ?a:2 #c:2))
(rule small (urem ?a:2 #c:2) ?a:2 (below ?a:2 #c:2))
(rule mask (urem ?a:2 #c:2) (and ?a:2 (eval (sub #c:2 1:2))) (if (eq 0:2 (and #c:2 (sub #c:2 1:2)))))
(rule solve (all (_ (sub ?s:2 ?b:2)) (s (add ?a:2 ?b:2))) ?a:2)
(rule subst (all (_ (not ?a:2)) (a #c:2)) (eval (not #c:2)))
(rule cancel (sub ?a:2 ?b:2) 0:2 (equal ?a:2 ?b:2))
(rule fact ?a:2 (and ?a:2 1:2) (below ?a:2 2:2))
`

// builder builds a random proof.
type builder struct {
	r     *rand.Rand
	rules []api.Rule
	given []api.Concl
	pool  []api.Term
	proof []api.Step
	shown []api.Concl
}

// random returns a term of width 2.
func random(r *rand.Rand, depth int) api.Term {
	if depth == 0 || r.IntN(3) == 0 {
		return []api.Term{term.Var("x", 2), term.Var("y", 2), term.Const(2, r.Uint64N(4))}[r.IntN(3)]
	}
	op := []api.Op{api.OpNot, api.OpAnd, api.OpXor, api.OpAdd, api.OpSub, api.OpUrem}[r.IntN(6)]
	if op == api.OpNot {
		return term.Make(op, random(r, depth-1))
	}
	return term.Make(op, random(r, depth-1), random(r, depth-1))
}

// some returns a term that was used already, or a new one.
func (b *builder) some() api.Term {
	switch k := b.r.IntN(4); {
	case k == 0 || len(b.shown) == 0:
		return random(b.r, 2)
	case k == 1:
		return b.pool[b.r.IntN(len(b.pool))]
	}
	c := b.shown[b.r.IntN(len(b.shown))]
	if c.IsFact || b.r.IntN(2) == 0 {
		return c.A
	}
	return c.B
}

// find returns the index of a random conclusion about a term, as the left side of an equation or as the subject of a fact; mostly, if there is one.
func (b *builder) find(u api.Term, isFact bool) int {
	if len(b.shown) == 0 {
		return 0
	}
	var l []int
	for k, c := range b.shown {
		if c.IsFact == isFact && term.Same(c.A, u) {
			l = append(l, k)
		}
	}
	if len(l) == 0 || b.r.IntN(20) == 0 {
		return b.r.IntN(len(b.shown))
	}
	return l[b.r.IntN(len(l))]
}

// step returns a random step of a kind, which need not be correct.
func (b *builder) step(kind int) api.Step {
	s := api.Step{Kind: kind}
	anyRef := func() int { return b.r.IntN(max(len(b.shown), 1)) }
	about := func(at int) api.Term {
		if len(b.shown) == 0 {
			return api.Term{}
		}
		c := b.shown[at]
		if c.IsFact {
			return c.A
		}
		return c.B
	}
	switch kind {
	case api.StepRefl, api.StepTop:
		s.A = b.some()
	case api.StepFold:
		s.A = term.Make(api.OpAdd, term.Const(2, b.r.Uint64N(4)), term.Const(2, b.r.Uint64N(4)))
	case api.StepSym, api.StepSingle:
		s.Refs = []int{b.find(b.some(), kind == api.StepSingle)}
	case api.StepTrans, api.StepMeet:
		first := anyRef()
		s.Refs = []int{first, b.find(about(first), kind == api.StepMeet)}
	case api.StepMove:
		u := b.some()
		s.Refs = []int{b.find(u, false), b.find(u, true)}
	case api.StepGiven:
		s.Rule = b.r.IntN(len(b.given) + 1)
	case api.StepCong, api.StepNode:
		s.A = b.some()
		s.B = term.Copy(s.A)
		for k, arg := range s.A.Args {
			ref := b.find(arg, kind == api.StepNode)
			s.Refs = append(s.Refs, ref)
			s.B.Args[k] = about(ref)
		}
	case api.StepRule:
		b.use(&s)
	}
	return s
}

// use completes a step that uses a rule.
func (b *builder) use(s *api.Step) {
	s.Rule = b.r.IntN(len(b.rules))
	r := b.rules[s.Rule]
	for range 200 {
		if l, ok := subst.Match(r.Left[0].Pattern, b.some()); ok {
			s.Subs = l
			break
		}
	}
	// If a hole of a further atom is not bound yet, an equation may tell its term.
	for _, a := range r.Left[1:] {
		u, _ := subst.Look(s.Subs, a.Root)
		ref := b.find(u, false)
		if len(b.shown) > 0 {
			l, _ := subst.Match(a.Pattern, b.shown[ref].B)
			s.Subs = append(s.Subs, l...)
		}
	}
	for _, v := range rule.Nums(r) {
		s.Subs = append(s.Subs, api.Sub{Name: v.Name, Term: term.Const(2, b.r.Uint64N(4))})
	}
	premises, _ := checker.Premises(r, s.Subs)
	for _, c := range premises {
		ref := b.find(c.A, c.IsFact)
		for k, shown := range b.shown {
			if !c.IsFact && checker.Same(c, shown) {
				ref = k
			}
		}
		s.Refs = append(s.Refs, ref)
	}
}

// add appends a step if it is correct, and reports whether it is.
func (b *builder) add(s api.Step) bool {
	var refs []api.Concl
	for _, ref := range s.Refs {
		if ref >= len(b.shown) {
			return false
		}
		refs = append(refs, b.shown[ref])
	}
	c, e := checker.Step(b.rules, b.given, s, refs)
	if e != api.OK || term.Size(c.A)+term.Size(c.B) > 60 {
		return false
	}
	b.proof = append(b.proof, s)
	b.shown = append(b.shown, c)
	return true
}

// TestSound checks P35.4: what random proofs conclude holds whenever their given equations do.
func TestSound(t *testing.T) {
	rules, _, e := ruletext.Parse(soundRules)
	if e != api.OK {
		t.Fatal(e)
	}
	for _, x := range rules {
		if ok, env, e := rule.Sound(x); !ok {
			t.Fatal(x.Name, env, e)
		}
	}
	r := rand.New(rand.NewPCG(35, 1))
	accepted, rejected := map[int]int{}, map[int]int{}
	used := map[int]int{}
	held := 0
	for range 300 {
		b := &builder{r: r, rules: rules}
		for range 8 {
			b.pool = append(b.pool, random(r, 2))
		}
		for range r.IntN(3) {
			b.given = append(b.given, api.Concl{A: b.pool[r.IntN(8)], B: b.pool[r.IntN(8)]})
		}
		if r.IntN(4) == 0 {
			// for the rule solve
			u, v := b.pool[0], b.pool[1]
			b.pool = append(b.pool, term.Make(api.OpSub, u, v))
			b.given = append(b.given, api.Concl{A: u, B: term.Make(api.OpAdd, b.pool[2], v)})
		}
		for range 150 {
			kind := 1 + r.IntN(20)
			if kind > 12 {
				kind = api.StepRule
			}
			s := b.step(kind)
			if !b.add(s) {
				rejected[s.Kind]++
				continue
			}
			accepted[s.Kind]++
			if s.Kind == api.StepRule {
				used[s.Rule]++
			}
		}
		held += b.check(t)
	}
	for kind := 1; kind <= 12; kind++ {
		if accepted[kind] < 50 || rejected[kind] < 50 && kind != api.StepRefl && kind != api.StepFold && kind != api.StepTop {
			t.Error(kind, accepted, rejected)
		}
	}
	for k := range rules {
		if used[k] < 8 {
			t.Error(rules[k].Name, used)
		}
	}
	if held < 1500 {
		t.Error(held)
	}
}

// check checks the conclusions of a random proof, and returns the number of environments under which its given equations hold.
func (b *builder) check(t *testing.T) int {
	t.Helper()
	l, at, e := checker.Conclude(b.rules, b.given, b.proof)
	if at != 0 || e != api.OK || !slices.EqualFunc(l, b.shown, checker.Same) {
		t.Fatal(at, e)
	}
	last := l[len(l)-1]
	want := api.OK
	if last.IsFact {
		want = api.ErrArg
	}
	if e := checker.Check(b.rules, b.given, b.proof, last.A, last.B); e != want {
		t.Fatal(last, e)
	}
	holds := func(c api.Concl, env []api.Bind) bool {
		ok, e := checker.Holds(c, env)
		if e != api.OK {
			t.Fatal(c, e)
		}
		return ok
	}
	count := 0
	for n := range uint64(16) {
		env := []api.Bind{{Name: "x", Val: n & 3}, {Name: "y", Val: n >> 2}}
		if slices.ContainsFunc(b.given, func(c api.Concl) bool { return !holds(c, env) }) {
			continue
		}
		count++
		for k, c := range l {
			if !holds(c, env) {
				t.Fatalf("step %d, %v, of %v shows %v, which is false for %v", k, b.proof[k], b.proof, c, env)
			}
		}
	}
	return count
}
