package proof_test

import (
	"math"
	"math/rand/v2"
	"slices"
	"testing"

	"saturate/api"
	"saturate/proof"
	"saturate/term"
)

var (
	x      = term.Var("x", 8)
	sum    = term.Make(api.OpAdd, x, x)
	choice = term.Make(api.OpIte, term.Var("b", 1), x, sum)
)

// step returns a step whose parts differ from those of other steps with other Refs or another kind.
func step(kind int, refs ...int) api.Step {
	return api.Step{Kind: kind, Refs: refs, Rule: 10*kind + len(refs), Subs: []api.Sub{{Name: "a", Term: sum}, {Name: "c", Term: term.Const(8, uint64(kind))}}, A: choice, B: term.Make(api.OpNot, sum)}
}

// about returns a step about a term with a number of operands.
func about(kind, operands int, refs ...int) api.Step {
	s := step(kind, refs...)
	s.A.Args = slices.Repeat([]api.Term{x}, operands)
	return s
}

// kinds returns what chapter 34 says of the kinds.
func kinds() []struct {
	name        string
	least, most int
} {
	return []struct {
		name        string
		least, most int
	}{
		{"", -1, -1}, {"refl", 0, 0}, {"sym", 1, 1}, {"trans", 2, 2}, {"cong", 0, 3}, {"rule", 0, 12}, {"fold", 0, 0},
		{"top", 0, 0}, {"node", 0, 3}, {"meet", 2, 2}, {"move", 2, 2}, {"single", 1, 1}, {"given", 0, 0},
	}
}

// TestKinds checks Kind and Refs of P34.1.
func TestKinds(t *testing.T) {
	for kind, want := range kinds() {
		least, most := proof.Refs(kind)
		if proof.Kind(kind) != want.name || least != want.least || most != want.most {
			t.Errorf("kind %d: %q, %d, %d", kind, proof.Kind(kind), least, most)
		}
	}
	for _, kind := range []int{-1, -2, 13, 14, 256 + api.StepSym, math.MaxInt, math.MinInt} {
		least, most := proof.Refs(kind)
		if proof.Kind(kind) != "" || least != -1 || most != -1 {
			t.Errorf("kind %d: %q, %d, %d", kind, proof.Kind(kind), least, most)
		}
	}
}

// wantCheck fails the test if Check does not return this.
func wantCheck(t *testing.T, what string, p []api.Step, at int, e api.Errno) {
	t.Helper()
	if gotAt, got := proof.Check(p); gotAt != at || got != e {
		t.Errorf("%s: Check is %d, %d, not %d, %d", what, gotAt, got, at, e)
	}
}

// TestCheckCounts checks P34.1 for all kinds and numbers of Refs and operands.
func TestCheckCounts(t *testing.T) {
	for kind := -1; kind <= 14; kind++ {
		for operands := range 6 {
			for refs := range 15 {
				known := kind >= 1 && kind <= 12
				right := known && refs >= kinds()[kind].least && refs <= kinds()[kind].most
				if kind == api.StepCong || kind == api.StepNode {
					right = refs == operands && operands <= 3
				}
				p := []api.Step{step(api.StepRefl), about(kind, operands, make([]int, refs)...), {Kind: 99}}
				want := 2
				if !right {
					want = 1
				}
				wantCheck(t, proof.Kind(kind), p, want, api.ErrStep)
				if right {
					wantCheck(t, proof.Kind(kind), p[:2], 0, api.OK)
				}
			}
		}
	}
}

// TestCheck checks P34.1 for references and lengths.
func TestCheck(t *testing.T) {
	refl := step(api.StepRefl)
	wantCheck(t, "no steps", nil, 0, api.ErrNone)
	wantCheck(t, "no steps", []api.Step{}, 0, api.ErrNone)
	wantCheck(t, "one step", []api.Step{refl}, 0, api.OK)
	for i, c := range []struct {
		s  api.Step
		ok bool
	}{
		{step(api.StepSym, 0), true}, {step(api.StepSym, 1), true}, {step(api.StepSym, 2), false}, {step(api.StepSym, 3), false}, {step(api.StepSym, -1), false}, {step(api.StepSym, math.MaxInt), false}, {step(api.StepSym, math.MinInt), false},
		{step(api.StepTrans, 1, 0), true}, {step(api.StepTrans, 1, 2), false}, {step(api.StepTrans, 2, 1), false}, {step(api.StepTrans, 0, -1), false}, {step(api.StepRule, 0, 1, 0, 1, 1, 1, 0, 0, 0, 0, 0, 1), true}, {step(api.StepRule, 0, 1, 0, 1, 1, 1, 0, 0, 0, 0, 0, 2), false},
	} {
		p := []api.Step{refl, refl, c.s, refl}
		if c.ok {
			wantCheck(t, "a reference", p, 0, api.OK)
		} else {
			wantCheck(t, "a wrong reference", p, 2, api.ErrStep)
		}
		if at, _ := proof.Check(append(p, step(0), step(13))); at != 2 && !c.ok || at != 4 && c.ok {
			t.Errorf("case %d: the first invalid step is %d", i, at)
		}
	}
	wantCheck(t, "a reference to itself", []api.Step{step(api.StepSym, 0)}, 0, api.ErrStep)
	long := slices.Repeat([]api.Step{{Kind: api.StepRefl}}, api.MaxSteps)
	wantCheck(t, "the greatest number of steps", long, 0, api.OK)
	long[0].Kind, long[9].Kind = 0, 0
	wantCheck(t, "an invalid first step", long, 0, api.ErrStep)
	wantCheck(t, "too many steps", append(long, api.Step{}), 0, api.ErrLong)
}

// random returns a valid proof.
func random(r *rand.Rand, length int) []api.Step {
	var p []api.Step
	for at := range length {
		kind := 1 + r.IntN(12)
		if at == 0 {
			kind = []int{api.StepRefl, api.StepGiven, api.StepFold, api.StepTop, api.StepRule}[r.IntN(5)]
		}
		least, most := proof.Refs(kind)
		refs := make([]int, least+r.IntN(most-least+1)*min(at, 1))
		for i := range refs {
			refs[i] = max(0, at-1-r.IntN(6))
		}
		s := about(kind, r.IntN(5), refs...)
		if kind == api.StepCong || kind == api.StepNode {
			s = about(kind, len(refs), refs...)
		}
		s.Rule = r.IntN(6) - 2
		p = append(p, s)
	}
	return p
}

// reached returns for each step whether the last one depends on it, and the depth of the last one.
func reached(p []api.Step) ([]bool, int) {
	used := make([]bool, len(p))
	var depth func(at int) int
	depth = func(at int) int {
		used[at] = true
		deepest := 0
		for _, ref := range p[at].Refs {
			deepest = max(deepest, depth(ref))
		}
		return deepest + 1
	}
	return used, depth(len(p) - 1)
}

// TestRandom checks P34.2 to P34.4 for random proofs.
func TestRandom(t *testing.T) {
	for seed := range uint64(400) {
		r := rand.New(rand.NewPCG(seed, 34))
		p := random(r, 1+r.IntN(9))
		wantCheck(t, "a random proof", p, 0, api.OK)
		used, depth := reached(p)
		var needed []int
		for at, is := range used {
			if is {
				needed = append(needed, at)
			}
		}
		if l := proof.Needed(p); !slices.Equal(l, needed) || proof.Depth(p) != depth {
			t.Fatalf("%v: %v, %d, not %v, %d", p, l, proof.Depth(p), needed, depth)
		}
		q := proof.Trim(p)
		checkTrim(t, p, q, needed)
		if !proof.Same(proof.Trim(q), q) || proof.Depth(q) != depth {
			t.Fatalf("Trim is not idempotent: %v", q)
		}
		for at, is := range used {
			if !is {
				p[at].A.Val, p[at].B, p[at].Rule, p[at].Subs = 7, x, 77, nil
			}
		}
		if !proof.Same(proof.Trim(p), q) {
			t.Fatalf("Trim depends on a step that it does not need: %v", p)
		}
		wantCheck(t, "Join", proof.Join(p, q), 0, api.OK)
		checkJoin(t, p, q)
	}
}

// checkTrim checks a trimmed proof q.
func checkTrim(t *testing.T, p, q []api.Step, needed []int) {
	t.Helper()
	wantCheck(t, "Trim", q, 0, api.OK)
	if len(q) != len(needed) {
		t.Fatalf("Trim of %v is %v", p, q)
	}
	for i, at := range needed {
		want := p[at]
		want.Refs = nil
		for _, ref := range p[at].Refs {
			want.Refs = append(want.Refs, slices.Index(needed, ref))
		}
		if !proof.Same(q[i:i+1], []api.Step{want}) {
			t.Fatalf("step %d of Trim is %v, not %v", i, q[i], want)
		}
	}
}

// checkJoin checks Join, and the counts of P34.3.
func checkJoin(t *testing.T, p, q []api.Step) {
	t.Helper()
	j := proof.Join(p, q)
	if len(j) != len(p)+len(q) || !proof.Same(j[:len(p)], p) {
		t.Fatalf("Join of %v and %v is %v", p, q, j)
	}
	uses := 0
	var rules []int
	for i, s := range j {
		if i >= len(p) {
			for k, ref := range s.Refs {
				s.Refs[k] = ref - len(p)
			}
			if !proof.Same([]api.Step{s}, q[i-len(p):][:1]) {
				t.Fatalf("step %d of Join is %v", i, s)
			}
		}
		if s.Kind == api.StepRule {
			uses++
			rules = append(rules, s.Rule)
		}
	}
	slices.Sort(rules)
	if proof.Uses(j) != uses || !slices.Equal(proof.Rules(j), slices.Compact(rules)) {
		t.Fatalf("%d uses of the rules %v, not %d, %v", proof.Uses(j), proof.Rules(j), uses, rules)
	}
}

// TestExample checks the example of chapter 34.
func TestExample(t *testing.T) {
	p := []api.Step{step(api.StepRefl), step(api.StepRefl), step(api.StepSym, 0)}
	q := proof.Trim(p)
	if !slices.Equal(proof.Needed(p), []int{0, 2}) || !proof.Same(q, []api.Step{step(api.StepRefl), step(api.StepSym, 0)}) || proof.Depth(p) != 2 {
		t.Error(q)
	}
}

// TestInvalid checks P34.2 and P34.3 for proofs for which Check returns an error.
func TestInvalid(t *testing.T) {
	bad := step(api.StepTrans, -1, 7)
	long := slices.Repeat([]api.Step{{Kind: api.StepRefl}}, api.MaxSteps+1)
	for i, p := range [][]api.Step{nil, {bad}, {step(api.StepRefl), step(0), step(api.StepSym, 0)}, {step(api.StepRefl), step(api.StepRefl), bad}, {step(api.StepSym, 1), step(api.StepRefl)}, long} {
		if len(proof.Needed(p)) != 0 || proof.Depth(p) != 0 || !proof.Same(proof.Trim(p), p) {
			t.Errorf("case %d", i)
		}
	}
	rule := func(n int) api.Step { return api.Step{Kind: api.StepRule, Rule: n, Refs: []int{99}} }
	p := []api.Step{rule(5), rule(-3), bad, rule(5), {Kind: api.StepGiven, Rule: 4}, {Kind: 256 + api.StepRule, Rule: 8}, rule(math.MaxInt), rule(math.MinInt), rule(5)}
	if proof.Uses(p) != 6 || !slices.Equal(proof.Rules(p), []int{math.MinInt, -3, 5, math.MaxInt}) {
		t.Error(proof.Uses(p), proof.Rules(p))
	}
	if proof.Uses(nil) != 0 || len(proof.Rules(nil)) != 0 || len(proof.Join(nil, nil)) != 0 {
		t.Error("no steps")
	}
	j := proof.Join(p, []api.Step{bad, rule(1)})
	if len(j) != 11 || !slices.Equal(j[9].Refs, []int{8, 16}) || !slices.Equal(j[10].Refs, []int{108}) || !slices.Equal(j[2].Refs, []int{-1, 7}) {
		t.Error(j)
	}
	chain := []api.Step{step(api.StepRefl)}
	for at := 1; at < api.MaxSteps; at++ {
		chain = append(chain, api.Step{Kind: api.StepSym, Refs: []int{at - 1}})
	}
	if proof.Depth(chain) != api.MaxSteps || len(proof.Needed(chain)) != api.MaxSteps || len(proof.Trim(chain)) != api.MaxSteps {
		t.Error("a long chain:", proof.Depth(chain))
	}
}

// TestSame checks Same of P34.3 for proofs that differ in one part.
func TestSame(t *testing.T) {
	same := func() []api.Step { return []api.Step{step(api.StepRefl), step(api.StepTrans, 0, 0)} }
	if !proof.Same(same(), same()) || !proof.Same(nil, []api.Step{}) || !proof.Same([]api.Step{{Refs: []int{}, Subs: []api.Sub{}}}, []api.Step{{}}) {
		t.Error("equal proofs")
	}
	for i, change := range []func(s *api.Step){
		func(s *api.Step) { s.Kind = api.StepMeet }, func(s *api.Step) { s.Rule++ }, func(s *api.Step) { s.Refs[1] = 1 }, func(s *api.Step) { s.Refs = s.Refs[:1] }, func(s *api.Step) { s.Refs = append(s.Refs, 0) }, func(s *api.Step) { s.A = x }, func(s *api.Step) { s.B = x }, func(s *api.Step) { s.A, s.B = s.B, s.A },
		func(s *api.Step) { s.Subs[1].Name = "d" }, func(s *api.Step) { s.Subs[0].Term = x }, func(s *api.Step) { s.Subs = s.Subs[1:] }, func(s *api.Step) { s.Subs[0], s.Subs[1] = s.Subs[1], s.Subs[0] },
	} {
		p := same()
		change(&p[1])
		if proof.Same(p, same()) || proof.Same(same(), p) {
			t.Errorf("case %d", i)
		}
	}
	if proof.Same(same(), same()[:1]) || proof.Same(nil, same()) {
		t.Error("other lengths")
	}
}

// TestMemory checks that results share no memory with arguments (general rule 5).
func TestMemory(t *testing.T) {
	make2 := func() []api.Step {
		s, last := step(api.StepRefl), step(api.StepSym, 0)
		for _, each := range []*api.Step{&s, &last} {
			each.A, each.B = term.Copy(each.A), term.Copy(each.B)
			each.Subs[0].Term = term.Copy(each.Subs[0].Term)
		}
		return []api.Step{s, last}
	}
	invalid := append(make2(), api.Step{})
	for i, f := range []func(p []api.Step) []api.Step{proof.Trim, func(p []api.Step) []api.Step { return proof.Join(p, nil) }, func(p []api.Step) []api.Step { return proof.Join(nil, p) }} {
		for k, p := range [][]api.Step{make2(), invalid} {
			want := append(make2(), p[2:]...)
			q := f(p)
			q[1].Refs[0], q[1].Subs[1].Name, q[1].Subs[0].Term.Args[0].Name, q[0].A.Args[1].Name, q[0].B.Args[0].Args[0].Name = 9, "z", "z", "z", "z"
			if q[0].Kind = 99; !proof.Same(p, want) {
				t.Errorf("function %d, proof %d: %v", i, k, p)
			}
		}
	}
}
