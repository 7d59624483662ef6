package synth_test

import (
	"maps"
	"math"
	"math/rand/v2"
	"slices"
	"strconv"
	"strings"
	"testing"

	"saturate/api"
	"saturate/cvec"
	"saturate/enum"
	"saturate/eval"
	"saturate/rule"
	"saturate/ruletext"
	"saturate/synth"
	"saturate/term"
	"saturate/termtext"
)

// vars returns variables with texts such as x:8.
func vars(t *testing.T, l ...string) []api.Var {
	t.Helper()
	var list []api.Var
	for _, s := range l {
		x := read(t, s)
		list = append(list, api.Var{Name: x.Name, Width: x.Width})
	}
	return list
}

// texts returns rules as their names and two sides.
func texts(l []api.Rule) []string {
	var list []string
	for _, r := range l {
		list = append(list, r.Name+" "+termtext.Print(r.Left[0].Pattern)+" "+termtext.Print(r.Right))
	}
	return list
}

// names returns the names of the variables of a term in the order of their first occurrence.
func names(x api.Term) []string {
	var l []string
	if x.Op == api.OpVar {
		l = append(l, x.Name)
	}
	for _, arg := range x.Args {
		for _, name := range names(arg) {
			if !slices.Contains(l, name) {
				l = append(l, name)
			}
		}
	}
	return l
}

// agree reports whether two terms have the same value for all values of variables.
func agree(t *testing.T, a, b api.Term, vars []api.Var, env []api.Bind) bool {
	t.Helper()
	if len(vars) > 0 {
		for val := range uint64(1) << vars[0].Width {
			if !agree(t, a, b, vars[1:], append(env, api.Bind{Name: vars[0].Name, Val: val})) {
				return false
			}
		}
		return true
	}
	x, e := eval.Eval(a, env)
	y, f := eval.Eval(b, env)
	if e != api.OK || f != api.OK {
		t.Fatal(a, b, e, f)
	}
	return x == y
}

// canonical returns the terms of a grammar that are canonical.
func canonical(g api.Grammar) []api.Term {
	var l []api.Term
	terms, _ := enum.Terms(g)
	for _, x := range terms {
		if slices.IsSorted(names(x)) {
			l = append(l, x)
		}
	}
	return l
}

// model returns what P46.4 says, as text. The refuted candidates are counted.
func model(t *testing.T, g api.Grammar, samples int, seed uint64) ([]string, int) {
	t.Helper()
	groups := map[string][]api.Term{}
	for _, x := range canonical(g) {
		key := strconv.Itoa(x.Width)
		for _, env := range cvec.Samples(g.Vars, min(max(samples, 4), 256), seed) {
			val, e := eval.Eval(x, env)
			if e != api.OK {
				t.Fatal(x, e)
			}
			key += " " + strconv.FormatUint(val, 10)
		}
		groups[key] = append(groups[key], x)
	}
	order := slices.SortedFunc(maps.Values(groups), func(a, b []api.Term) int {
		if a[0].Width != b[0].Width {
			return a[0].Width - b[0].Width
		}
		return term.Compare(a[0], b[0])
	})
	var rules []string
	refuted := 0
	for _, l := range order {
		for _, x := range l[1:] {
			if slices.ContainsFunc(names(l[0]), func(name string) bool { return !slices.Contains(names(x), name) }) {
				continue
			}
			if !agree(t, x, l[0], g.Vars, nil) {
				refuted++
				continue
			}
			s := "r" + strconv.Itoa(len(rules)) + " " + termtext.Print(x) + " " + termtext.Print(l[0])
			for _, v := range g.Vars {
				s = strings.ReplaceAll(s, " "+v.Name+":", " ?"+v.Name+":")
			}
			rules = append(rules, s)
		}
	}
	return rules[:min(len(rules), 1024)], refuted
}

// check checks that Run returns what the model returns, and P46.6 for its rules. It returns the numbers of rules and of refuted candidates.
func check(t *testing.T, g api.Grammar, samples int, seed uint64) (int, int) {
	t.Helper()
	l, e := synth.Run(g, samples, seed)
	want, refuted := model(t, g, samples, seed)
	if got := texts(l); e != api.OK || !slices.Equal(got, want) {
		t.Fatalf("%v, %d, %d: %d, %q, not %q", g, samples, seed, e, got, want)
	}
	for _, r := range l {
		if ok, _, e := rule.Sound(r); !ok || e != api.OK || rule.Check(r) != api.OK || !rule.Simple(r) {
			t.Fatal(r, e)
		}
	}
	return len(l), refuted
}

// TestExamples checks the example of chapter 46, and what the terms of the document's example 7 give: idempotence. Commutativity is no candidate, because (and y:2 x:2) and (add y:2 x:2) are not canonical.
func TestExamples(t *testing.T) {
	l, e := synth.Run(api.Grammar{Vars: vars(t, "x:4"), Consts: []api.Word{{Width: 4}}, Ops: []api.Op{api.OpAdd, api.OpSub}, Size: 3, Most: 100}, 8, 1)
	want := []string{"r0 (add ?x:4 0:4) ?x:4", "r1 (add 0:4 ?x:4) ?x:4", "r2 (sub ?x:4 0:4) ?x:4", "r3 (add 0:4 0:4) 0:4", "r4 (sub ?x:4 ?x:4) 0:4", "r5 (sub 0:4 0:4) 0:4"}
	if got := texts(l); e != api.OK || !slices.Equal(got, want) {
		t.Errorf("%d, %q", e, got)
	}
	l, e = synth.Run(api.Grammar{Vars: vars(t, "x:2", "y:2"), Ops: []api.Op{api.OpAdd, api.OpAnd}, Size: 3, Most: 100}, 16, 1)
	if got := texts(l); e != api.OK || !slices.Equal(got, []string{"r0 (and ?x:2 ?x:2) ?x:2", "r1 (and ?y:2 ?y:2) ?y:2"}) {
		t.Errorf("%d, %q", e, got)
	}
	// Rules have the notation of chapter 29.
	if parsed, at, e := ruletext.Parse(ruletext.Print(l)); e != api.OK || len(parsed) != 2 || !slices.EqualFunc(parsed, l, rule.Same) {
		t.Error(parsed, at, e)
	}
}

// TestRun checks P46.4 and P46.6 for some grammars.
func TestRun(t *testing.T) {
	every := []api.Op{api.OpNot, api.OpNeg, api.OpAnd, api.OpOr, api.OpXor, api.OpAdd, api.OpSub, api.OpMul, api.OpUdiv, api.OpUrem, api.OpShl, api.OpLshr, api.OpAshr, api.OpEq, api.OpUlt, api.OpSlt, api.OpIte, api.OpConcat}
	for i, c := range []struct {
		g       api.Grammar
		samples int
		rules   bool
	}{
		{api.Grammar{}, 8, false}, {api.Grammar{Size: 12, Most: 65536}, 8, false}, {api.Grammar{Vars: vars(t, "x:4"), Size: 12, Most: 100}, 8, false},
		{api.Grammar{Vars: vars(t, "x:4"), Ops: every[:8], Size: 0, Most: 100}, 8, false}, {api.Grammar{Vars: vars(t, "x:4"), Ops: every[:8], Size: 5, Most: 0}, 8, false}, {api.Grammar{Vars: vars(t, "x:4"), Ops: every[:8], Size: 5, Most: 1}, 8, false},
		{api.Grammar{Vars: vars(t, "x:4"), Ops: every[:8], Size: 5, Most: 40}, 8, true}, {api.Grammar{Consts: []api.Word{{Width: 8, Val: 3}, {Width: 64, Val: math.MaxUint64}}, Ops: every[:6], Size: 4, Most: 300}, 8, true},
		{api.Grammar{Vars: vars(t, "c:1", "x:2"), Consts: []api.Word{{Width: 2, Val: 1}, {Width: 1, Val: 1}}, Ops: every[13:], Size: 4, Most: 1000}, 8, true},
		// as many bits as possible, and none
		{api.Grammar{Vars: vars(t, "x:16"), Ops: every[:5], Size: 3, Most: 30}, 8, true}, {api.Grammar{Vars: vars(t, "x:8", "y:8"), Ops: []api.Op{api.OpAnd}, Size: 3, Most: 30}, 8, true}, {api.Grammar{Vars: vars(t, "x:2", "y:2", "z:2", "u:2", "v:2", "w:2", "p:2", "q:2"), Ops: []api.Op{api.OpAnd}, Size: 3, Most: 200}, 8, true},
		// The variables are not in the order of their names.
		{api.Grammar{Vars: vars(t, "y:3", "x:3"), Ops: every[2:8], Size: 3, Most: 1000}, 5, true},
		{api.Grammar{Vars: vars(t, "b:2", "c:3", "a:2"), Ops: every[2:8], Size: 3, Most: 1000}, 6, true},
	} {
		if n, _ := check(t, c.g, c.samples, 7); (n > 0) != c.rules {
			t.Errorf("case %d: %d rules", i, n)
		}
	}
	// Only one of 65536 assignments refutes the first candidates, and no sample does.
	if n, refuted := check(t, api.Grammar{Vars: vars(t, "x:16"), Consts: []api.Word{{Width: 16, Val: 12345}, {Width: 1}}, Ops: []api.Op{api.OpEq, api.OpAnd}, Size: 3, Most: 100}, 256, 1); n == 0 || refuted == 0 {
		t.Error(n, refuted)
	}
	// There are more rules than may be returned. The first ones are.
	if n, _ := check(t, api.Grammar{Vars: vars(t, "x:2"), Consts: []api.Word{{Width: 2, Val: 2}}, Ops: every[:10], Size: 5, Most: 1400}, 16, 3); n != 1024 {
		t.Error(n)
	}
}

// TestSamples checks that the samples decide which candidates there are, and within which bounds their number is (P46.4).
func TestSamples(t *testing.T) {
	g := api.Grammar{Vars: vars(t, "y:3", "x:3"), Consts: []api.Word{{Width: 3, Val: 5}}, Ops: []api.Op{api.OpAnd, api.OpSub, api.OpMul, api.OpShl}, Size: 3, Most: 200}
	refuted := map[int]int{}
	for _, samples := range []int{math.MinInt, -1, 0, 1, 3, 4, 5, 6, 8, 64, 255, 256, 257, math.MaxInt} {
		for seed := range uint64(4) {
			_, n := check(t, g, samples, seed)
			refuted[samples] += n
		}
	}
	if refuted[4] == 0 || refuted[0] != refuted[4] || refuted[5] == 0 || refuted[256] != 0 {
		t.Error(refuted)
	}
	// All variables have equal values in the samples 0 to 3, and so many rules are missed.
	few, _ := check(t, g, 4, 1)
	many, _ := check(t, g, 256, 1)
	if few >= many {
		t.Error(few, many)
	}
	differ := false
	for seed := range uint64(20) {
		a, _ := synth.Run(g, 6, seed)
		b, _ := synth.Run(g, 6, seed+1)
		differ = differ || !slices.Equal(texts(a), texts(b))
	}
	if !differ {
		t.Error("the seed does not matter")
	}
}

// TestRandomGrammars checks P46.4 and P46.6 for random grammars, which are not changed.
func TestRandomGrammars(t *testing.T) {
	r := rand.New(rand.NewPCG(46, 4))
	rules, refuted := 0, 0
	for range 400 {
		g := api.Grammar{Size: 1 + r.IntN(5), Most: 20 + r.IntN(150)}
		for _, k := range r.Perm(4)[:r.IntN(4)] {
			g.Vars = append(g.Vars, api.Var{Name: []string{"x", "y", "a", "b2"}[k], Width: 1 + r.IntN(3)})
		}
		for range r.IntN(3) {
			width := 1 + r.IntN(3)
			g.Consts = append(g.Consts, api.Word{Width: width, Val: r.Uint64N(1 << width)})
		}
		for _, k := range r.Perm(18)[:r.IntN(6)] {
			g.Ops = append(g.Ops, api.OpNot+api.Op(k))
		}
		before := api.Grammar{Vars: slices.Clone(g.Vars), Consts: slices.Clone(g.Consts), Ops: slices.Clone(g.Ops), Size: g.Size, Most: g.Most}
		n, wrong := check(t, g, r.IntN(9), r.Uint64())
		rules += n
		refuted += wrong
		if !slices.Equal(g.Vars, before.Vars) || !slices.Equal(g.Consts, before.Consts) || !slices.Equal(g.Ops, before.Ops) {
			t.Fatal("the grammar was changed:", g, before)
		}
	}
	if rules < 1000 || refuted < 300 {
		t.Error(rules, refuted)
	}
}

// TestGroups checks that canonical terms which are equal under all assignments are in one group, with any samples (P46.6).
func TestGroups(t *testing.T) {
	g := api.Grammar{Vars: vars(t, "x:2", "y:2"), Consts: []api.Word{{Width: 2}}, Ops: []api.Op{api.OpNot, api.OpAnd, api.OpSub, api.OpEq}, Size: 4, Most: 150}
	terms := canonical(g)
	for _, samples := range []int{4, 7, 256} {
		at := map[string]int{}
		for k, group := range cvec.Groups(terms, cvec.Samples(g.Vars, samples, 5)) {
			for _, x := range group.Terms {
				at[termtext.Print(x)] = k
			}
		}
		equal := 0
		for i, a := range terms {
			for _, b := range terms[:i] {
				if a.Width == b.Width && agree(t, a, b, g.Vars, nil) {
					equal++
					if at[termtext.Print(a)] != at[termtext.Print(b)] {
						t.Fatal(samples, termtext.Print(a), termtext.Print(b))
					}
				}
			}
		}
		if equal < 100 {
			t.Error(equal)
		}
	}
}

// TestRunErrors checks the errors of P46.4 and their order.
func TestRunErrors(t *testing.T) {
	base := func() api.Grammar {
		return api.Grammar{Vars: vars(t, "x:8", "y:8"), Ops: []api.Op{api.OpAnd}, Size: 3, Most: 50}
	}
	for i, c := range []struct {
		change func(g *api.Grammar)
		want   api.Errno
	}{
		{func(g *api.Grammar) {}, api.OK}, {func(g *api.Grammar) { g.Vars[0].Name = "X" }, api.ErrName}, {func(g *api.Grammar) { g.Vars[0].Name = "y" }, api.ErrDup}, {func(g *api.Grammar) { g.Vars[0].Width = 65 }, api.ErrWidth}, {func(g *api.Grammar) { g.Consts = []api.Word{{Width: 1, Val: 2}} }, api.ErrRange}, {func(g *api.Grammar) { g.Ops = []api.Op{api.OpZext} }, api.ErrOp}, {func(g *api.Grammar) { g.Size = 13 }, api.ErrRange}, {func(g *api.Grammar) { g.Most = 65537 }, api.ErrRange}, {func(g *api.Grammar) { g.Consts = make([]api.Word, 9) }, api.ErrWidth}, {func(g *api.Grammar) { g.Consts = slices.Repeat([]api.Word{{Width: 1}}, 9) }, api.ErrLong},
		// The variables may have 16 bits together. Consts do not count.
		{func(g *api.Grammar) { g.Vars[0].Width = 9 }, api.ErrLong}, {func(g *api.Grammar) { g.Vars[0].Width = 64 }, api.ErrLong}, {func(g *api.Grammar) { g.Vars = vars(t, "x:17") }, api.ErrLong}, {func(g *api.Grammar) { g.Vars = vars(t, "x:16") }, api.OK}, {func(g *api.Grammar) { g.Consts = []api.Word{{Width: 64}} }, api.OK}, {func(g *api.Grammar) { g.Vars = append(g.Vars, vars(t, "z:1")...) }, api.ErrLong},
		{func(g *api.Grammar) { g.Vars[0].Width, g.Size = 9, 0 }, api.ErrLong},
		{func(g *api.Grammar) { g.Vars[0].Width, g.Size = 9, -1 }, api.ErrRange}, {func(g *api.Grammar) { g.Vars[0].Width, g.Vars[1].Name = 9, "" }, api.ErrName}, {func(g *api.Grammar) { g.Vars[0].Width, g.Ops[0] = 9, api.OpVar }, api.ErrOp},
	} {
		g := base()
		c.change(&g)
		if l, e := synth.Run(g, 8, 1); e != c.want || e != api.OK && len(l) > 0 {
			t.Errorf("case %d: %d, not %d", i, e, c.want)
		}
	}
}
