package search_test

import (
	"math"
	"slices"
	"strconv"
	"strings"
	"testing"

	"saturate/analysis"
	"saturate/api"
	"saturate/egraph"
	"saturate/machine"
	"saturate/represent"
	"saturate/search"
	"saturate/termtext"
)

// pattern reads a pattern or a term.
func pattern(t *testing.T, s string) api.Term {
	t.Helper()
	p, e := termtext.Parse(s)
	if e != api.OK {
		t.Fatalf("%s: %d", s, e)
	}
	return p
}

// rule returns a rule, whose atoms are separated by semicolons and have a Root if an equals sign follows it.
func rule(t *testing.T, left, right string, guards ...api.Guard) api.Rule {
	t.Helper()
	r := api.Rule{Name: "r", Right: pattern(t, right), Guards: guards}
	for _, part := range strings.Split(left, ";") {
		root, text, ok := strings.Cut(part, "=")
		if !ok {
			root, text = "", part
		}
		r.Left = append(r.Left, api.Atom{Root: strings.TrimSpace(root), Pattern: pattern(t, strings.TrimSpace(text))})
	}
	return r
}

// guarded returns a guard.
func guarded(t *testing.T, kind int, l ...string) api.Guard {
	t.Helper()
	c := api.Guard{Kind: kind, A: pattern(t, l[0])}
	if len(l) > 1 {
		c.B = pattern(t, l[1])
	}
	return c
}

// graph returns an e-graph with terms.
func graph(t *testing.T, l ...string) *egraph.Graph {
	t.Helper()
	g := egraph.New()
	for _, s := range l {
		if _, e := represent.AddTerm(g, pattern(t, s)); e != api.OK {
			t.Fatal(s, e)
		}
	}
	return g
}

// join joins two terms of an e-graph.
func join(t *testing.T, g *egraph.Graph, a, b string) {
	t.Helper()
	if _, e := g.Union(class(t, g, a), class(t, g, b), api.WhyGiven); e != api.OK {
		t.Fatal(a, b, e)
	}
}

// class returns the class of a term.
func class(t *testing.T, g *egraph.Graph, s string) int {
	t.Helper()
	id, ok := represent.Find(g, pattern(t, s))
	if !ok {
		t.Fatal(s)
	}
	return id
}

// unusable returns e-graphs that are nil or that New did not make.
func unusable(t *testing.T) []*egraph.Graph {
	var zero egraph.Graph
	used := *graph(t, "(add x:8 0:8)")
	return []*egraph.Graph{nil, &zero, &used}
}

// checkAll checks what All and Count return, and that Holds is true for it (P30.4).
func checkAll(t *testing.T, g *egraph.Graph, table *analysis.Table, r api.Rule, want []api.Match) {
	t.Helper()
	l, e := search.All(g, table, r, math.MaxInt)
	if e != api.OK || !slices.EqualFunc(l, want, machine.Same) {
		t.Errorf("%v: %v, %d, not %v", r, l, e, want)
	}
	if n, e := search.Count(g, table, r); n != len(want) || e != api.OK {
		t.Errorf("%v: %d, %d", r, n, e)
	}
	for _, m := range want {
		if !search.Holds(g, table, r, m) {
			t.Errorf("%v does not hold for %v", r, m)
		}
	}
	for most := -1; most <= len(want)+1; most++ {
		if l, e := search.All(g, table, r, most); e != api.OK || !slices.EqualFunc(l, want[:min(max(most, 0), len(want))], machine.Same) {
			t.Errorf("%v: the first %d are %v, %d", r, most, l, e)
		}
	}
}

// match returns a match with one root, one hole a, and maybe a num c.
func match(root, hole int, nums ...uint64) api.Match {
	m := api.Match{Roots: []int{root}, Holes: []api.Pair{{Name: "a", Id: hole}}}
	for _, val := range nums {
		m.Nums = append(m.Nums, api.Bind{Name: "c", Val: val})
	}
	return m
}

// TestAll checks P30.1 and P30.4: what each kind of guard excludes.
func TestAll(t *testing.T) {
	g := graph(t, "(udiv x:8 4:8)", "(udiv y:8 3:8)", "(udiv (and x:8 12:8) 16:8)", "(udiv (lshr y:8 7:8) 1:8)")
	id := func(s string) int { return class(t, g, s) }
	four := match(id("(udiv x:8 4:8)"), id("x:8"), 4)
	three := match(id("(udiv y:8 3:8)"), id("y:8"), 3)
	sixteen := match(id("(udiv (and x:8 12:8) 16:8)"), id("(and x:8 12:8)"), 16)
	one := match(id("(udiv (lshr y:8 7:8) 1:8)"), id("(lshr y:8 7:8)"), 1)
	table, e := analysis.Run(g)
	if e != api.OK {
		t.Fatal(e)
	}
	power := guarded(t, api.GuardPred, "(eq (and #c:8 (sub #c:8 1:8)) 0:8)")
	below := guarded(t, api.GuardBelow, "?a:8", "#c:8")
	odd := guarded(t, api.GuardZeros, "?a:8", "#c:8")
	isX := guarded(t, api.GuardEqual, "(and ?a:8 12:8)", "(and ?a:8 12:8)")
	var foreign analysis.Table
	for i, x := range []struct {
		guards []api.Guard
		table  *analysis.Table
		want   []api.Match
	}{
		{nil, nil, []api.Match{four, three, sixteen, one}}, {nil, table, []api.Match{four, three, sixteen, one}}, {nil, &foreign, []api.Match{four, three, sixteen, one}},
		{[]api.Guard{power}, nil, []api.Match{four, sixteen, one}}, {[]api.Guard{below}, table, []api.Match{sixteen}}, {[]api.Guard{odd}, table, []api.Match{sixteen}}, {[]api.Guard{isX}, nil, []api.Match{four}},
		// Facts need a table.
		{[]api.Guard{below}, nil, nil}, {[]api.Guard{odd}, nil, nil}, {[]api.Guard{below}, &foreign, nil},
		// all of several guards
		{[]api.Guard{power, isX}, nil, []api.Match{four}}, {[]api.Guard{isX, power}, table, []api.Match{four}}, {[]api.Guard{power, below, odd}, table, []api.Match{sixteen}}, {[]api.Guard{isX, below}, table, nil}, {[]api.Guard{below, isX}, table, nil},
		// guards that are not valid
		{[]api.Guard{{Kind: 5, A: pattern(t, "1:1")}}, table, nil}, {[]api.Guard{power, {}}, table, nil}, {[]api.Guard{guarded(t, api.GuardPred, "(eq #d:8 0:8)")}, table, nil}, {[]api.Guard{guarded(t, api.GuardEqual, "?b:8", "?b:8")}, table, nil},
	} {
		r := rule(t, "(udiv ?a:8 #c:8)", "?a:8", x.guards...)
		t.Log("case", i)
		checkAll(t, g, x.table, r, x.want)
		// Right does not matter for matches.
		r.Right, r.Name = api.Term{}, "?"
		checkAll(t, g, x.table, r, x.want)
	}
}

// TestAtoms checks P30.1 for rules with several atoms.
func TestAtoms(t *testing.T) {
	g := graph(t, "(sub x:8 y:8)", "(add y:8 z:8)", "(sub y:8 x:8)", "(sub z:8 z:8)")
	join(t, g, "x:8", "(add y:8 z:8)")
	g.Rebuild()
	r := rule(t, "(sub ?a:8 ?b:8); a = (add ?b:8 ?c:8)", "?c:8")
	id := func(s string) int { return class(t, g, s) }
	m := api.Match{Roots: []int{id("(sub x:8 y:8)"), id("x:8")}, Holes: []api.Pair{{Name: "a", Id: id("x:8")}, {Name: "b", Id: id("y:8")}, {Name: "c", Id: id("z:8")}}}
	checkAll(t, g, nil, r, []api.Match{m})
	r.Guards = []api.Guard{guarded(t, api.GuardEqual, "(sub ?c:8 ?c:8)", "(sub z:8 z:8)")}
	checkAll(t, g, nil, r, []api.Match{m})
	r.Guards = append(r.Guards, guarded(t, api.GuardEqual, "?a:8", "?b:8"))
	checkAll(t, g, nil, r, nil)
}

// TestErrors checks the errors of P30.1 and P30.3, and their order, and P30.2 where there is no match.
func TestErrors(t *testing.T) {
	g := graph(t, "(add x:8 0:8)")
	dirty := graph(t, "(add x:8 0:8)")
	join(t, dirty, "x:8", "0:8")
	good := rule(t, "(add ?a:8 0:8)", "?a:8")
	type state struct {
		g *egraph.Graph
		e api.Errno
	}
	states := []state{{g, api.OK}, {dirty, api.ErrDirty}}
	for _, g := range unusable(t) {
		states = append(states, state{g, api.ErrNil})
	}
	guard := guarded(t, api.GuardPred, "1:1")
	five := rule(t, "?a:8; ?a:8; ?a:8; ?a:8; ?a:8", "?a:8")
	for i, x := range []struct {
		r api.Rule
		e api.Errno
	}{
		{good, api.OK}, {api.Rule{}, api.ErrLong}, {five, api.ErrLong}, {rule(t, "x:8", "x:8"), api.ErrOp}, {rule(t, "(add ?a:0 0:0)", "?a:0"), api.ErrWidth}, {rule(t, "A = ?a:8", "?a:8"), api.ErrName}, {rule(t, "?a:8; ?a:4", "?a:8"), api.ErrBind}, {rule(t, "?a:8; b = x:8; ?a:4", "?a:8"), api.ErrOp},
	} {
		for k, s := range states {
			want := s.e
			if want == api.OK {
				want = x.e
			}
			for _, guards := range [][]api.Guard{nil, {guard}} {
				r := x.r
				r.Guards = guards
				for _, most := range []int{0, 1, -1, math.MaxInt, math.MinInt} {
					if l, e := search.All(s.g, nil, r, most); e != want || e != api.OK && l != nil {
						t.Errorf("rule %d, e-graph %d: %v, %d", i, k, l, e)
					}
				}
				if n, e := search.Count(s.g, nil, r); e != want || (n == 0) == (e == api.OK) {
					t.Errorf("rule %d, e-graph %d: %d, %d", i, k, n, e)
				}
				if ok, e := search.Closed(s.g, nil, []api.Rule{r}); e != want || ok {
					t.Errorf("rule %d, e-graph %d: %v, %d", i, k, ok, e)
				}
				if ok := search.Holds(s.g, nil, r, match(2, 0)); ok != (want == api.OK) {
					t.Errorf("rule %d, e-graph %d: %v", i, k, ok)
				}
			}
		}
	}
	for i, s := range states {
		if done := search.Done(s.g, rule(t, "?a:8", "?a:8"), match(0, 0)); done != (s.e == api.OK) {
			t.Errorf("e-graph %d: %v", i, done)
		}
	}
}

// TestMost checks the limits of P30.1, in an e-graph in which two holes have 90000 matches.
func TestMost(t *testing.T) {
	g := egraph.New()
	const width, classes = 16, 300
	for val := range uint64(classes) {
		if _, e := g.Add(api.Node{Op: api.OpConst, Width: width, Val: val}); e != api.OK {
			t.Fatal(e)
		}
	}
	full, last := api.MaxMatches/classes, api.MaxMatches%classes
	first := func(id int) api.Guard {
		return guarded(t, api.GuardEqual, "?a:16", strconv.Itoa(id)+":16")
	}
	for i, x := range []struct {
		guards []api.Guard
		want   int
	}{{nil, api.MaxMatches}, {[]api.Guard{first(0)}, classes}, {[]api.Guard{first(full - 1)}, classes}, {[]api.Guard{first(full)}, last}, {[]api.Guard{first(full + 1)}, 0}} {
		r := rule(t, "?a:16; ?b:16", "?a:16", x.guards...)
		if n, e := search.Count(g, nil, r); n != x.want || e != api.OK {
			t.Errorf("case %d: %d, %d", i, n, e)
		}
		for _, most := range []int{0, 1, 7, last, last + 1, api.MaxMatches - 1, api.MaxMatches, api.MaxMatches + 1, math.MaxInt} {
			l, e := search.All(g, nil, r, most)
			if len(l) != min(most, x.want) || e != api.OK || !slices.IsSortedFunc(l, machine.Compare) {
				t.Errorf("case %d, most %d: %d, %d", i, most, len(l), e)
			}
		}
	}
	// A match beyond the first ones is a match.
	m := api.Match{Roots: []int{299, 299}, Holes: []api.Pair{{Name: "a", Id: 299}, {Name: "b", Id: 299}}}
	if !search.Holds(g, nil, rule(t, "?a:16; ?b:16", "?a:16", first(299)), m) {
		t.Error("Holds")
	}
	// Closed examines only the first MaxMatches matches of each rule.
	for _, x := range []struct {
		val  int
		want bool
	}{{full, false}, {full + 1, true}} {
		r := rule(t, "?a:16; ?b:16", "?b:16", first(x.val))
		if ok, e := search.Closed(g, nil, []api.Rule{r}); ok != x.want || e != api.OK {
			t.Errorf("%d: %v, %d", x.val, ok, e)
		}
	}
}

// TestHolds checks P30.2 for matches that are none.
func TestHolds(t *testing.T) {
	g := graph(t, "(add x:8 3:8)", "(add y:8 5:8)", "z:4")
	join(t, g, "(add x:8 3:8)", "y:8")
	g.Rebuild()
	id := func(s string) int { return class(t, g, s) }
	r := rule(t, "(add ?a:8 #c:8)", "?a:8", guarded(t, api.GuardPred, "(ult #c:8 5:8)"))
	good := match(id("y:8"), id("x:8"), 3)
	if id("y:8") != 2 || !search.Holds(g, nil, r, good) {
		t.Error("a match")
	}
	for i, m := range []api.Match{
		{}, match(id("(add y:8 5:8)"), id("y:8"), 5), match(id("y:8"), id("y:8"), 3), match(id("x:8"), id("x:8"), 3), match(id("y:8"), id("x:8"), 4), match(id("y:8"), id("x:8"), 259), match(id("y:8"), id("x:8")), match(id("y:8"), id("x:8"), 3, 3), match(id("y:8"), id("z:4"), 3),
		match(-1, id("x:8"), 3), match(id("y:8"), -1, 3), match(99, 99, 3), {Roots: good.Roots, Nums: good.Nums}, {Holes: good.Holes, Nums: good.Nums}, {Roots: []int{good.Roots[0], good.Roots[0]}, Holes: good.Holes, Nums: good.Nums},
		match(3, id("x:8"), 3), // 3 is an id of the class of y, but not the least one
	} {
		if search.Holds(g, nil, r, m) {
			t.Errorf("match %d", i)
		}
	}
}

// TestDone checks P30.2 for Done.
func TestDone(t *testing.T) {
	g := graph(t, "(add x:8 0:8)", "(shl x:8 3:8)", "(mul x:8 8:8)", "(zext 8 y:4)", "5:4", "w:64")
	join(t, g, "(add x:8 0:8)", "x:8")
	join(t, g, "(shl x:8 3:8)", "(mul x:8 8:8)")
	g.Rebuild()
	x, shift := class(t, g, "x:8"), class(t, g, "(shl x:8 3:8)")
	with := func(m api.Match, roots ...int) api.Match {
		m.Roots = roots
		return m
	}
	eval := func(width int, args ...api.Term) api.Term {
		return api.Term{Op: api.OpEval, Width: width, Args: args}
	}
	power := func(arg api.Term) api.Term {
		return api.Term{Op: api.OpMul, Width: 8, Args: []api.Term{pattern(t, "?a:8"), arg}}
	}
	two := pattern(t, "(shl 1:8 #c:8)")
	odd := pattern(t, "?a:8")
	odd.Args = []api.Term{eval(8), eval(8, pattern(t, "?b:8"))}
	num := pattern(t, "#c:8")
	num.Args = []api.Term{eval(8), eval(8, pattern(t, "#d:8"))}
	m := match(shift, x, 3)
	for i, c := range []struct {
		right api.Term
		m     api.Match
		want  bool
	}{
		{pattern(t, "?a:8"), match(x, x), true}, {pattern(t, "?a:8"), match(shift, x), false}, {pattern(t, "(shl ?a:8 3:8)"), match(shift, x), true}, {pattern(t, "(shl ?a:8 #c:8)"), m, true}, {pattern(t, "(shl ?a:8 #c:8)"), match(shift, x, 8), false}, {pattern(t, "(mul ?a:8 #c:8)"), match(shift, x, 8), true}, {pattern(t, "(lshr ?a:8 #c:8)"), m, false},
		// evals
		{power(eval(8, two)), m, true}, {power(eval(8, two)), match(shift, x, 2), false}, {power(eval(8, two)), match(x, x, 3), false}, {power(eval(8, two)), match(shift, x, 259), true}, {power(eval(8, two)), match(shift, x), false}, {power(eval(8, pattern(t, "(shl 1:8 #d:8)"))), m, false}, {power(eval(8, pattern(t, "?a:8"))), m, false}, {power(eval(8)), m, false}, {power(eval(8, two, two)), m, false}, {power(eval(8, eval(8, two))), m, false},
		{eval(8, two), with(m, class(t, g, "8:8")), true}, {eval(8, pattern(t, "(sub #c:8 #c:8)")), with(m, class(t, g, "0:8")), true}, {eval(8, two), with(m, x), false}, {eval(8, pattern(t, "9:8")), with(m, x), false},
		// The Width of the eval does not matter, but that of its operand does.
		{eval(4, two), with(m, class(t, g, "8:8")), true}, {eval(8, pattern(t, "(add #c:4 2:4)")), with(m, class(t, g, "5:4")), true}, {eval(8, pattern(t, "(add #c:4 2:4)")), with(m, class(t, g, "8:8")), false}, {eval(8, api.Term{Op: api.OpNot, Width: 8, Args: []api.Term{pattern(t, "247:8")}}), with(m, class(t, g, "8:8")), true}, {eval(8, pattern(t, "3:0")), with(m, class(t, g, "3:8")), false},
		// operands of holes and nums
		{odd, match(x, x), true}, {api.Term{Op: api.OpShl, Width: 8, Args: []api.Term{odd, num}}, m, true},
		// Roots and holes need not be least ids; only the first root counts.
		{pattern(t, "?a:8"), match(x, 2), true}, {pattern(t, "?a:8"), match(2, x), true}, {pattern(t, "?a:8"), with(match(0, x), x, shift), true}, {pattern(t, "?a:8"), with(match(0, x), shift, x), false},
		// what is no match
		{pattern(t, "?a:8"), with(match(0, x)), false}, {pattern(t, "?a:8"), match(-1, x), false}, {pattern(t, "?a:8"), match(99, 99), false}, {pattern(t, "?a:8"), match(-1, -1), false}, {pattern(t, "?b:8"), match(x, x), false}, {pattern(t, "?a:4"), match(x, x), false}, {pattern(t, "x:8"), with(api.Match{}, x), true}, {pattern(t, "(zext 8 y:4)"), with(api.Match{}, class(t, g, "(zext 8 y:4)")), true}, {api.Term{}, match(x, x), false}, {api.Term{Op: 99}, match(x, x), false}, {api.Term{Op: api.OpNot, Width: 8, Args: []api.Term{{}}}, match(x, x), false},
	} {
		// Neither the atoms nor the guards matter.
		for _, r := range []api.Rule{{Right: c.right}, {Name: "r", Left: []api.Atom{{Pattern: pattern(t, "(sub ?a:8 #c:8)")}}, Right: c.right, Guards: []api.Guard{{}}}} {
			if done := search.Done(g, r, c.m); done != c.want {
				t.Errorf("case %d: %v", i, done)
			}
		}
	}
}

// TestClosed checks P30.3.
func TestClosed(t *testing.T) {
	g := graph(t, "(add x:8 0:8)", "(add y:8 0:8)", "(mul z:8 1:8)", "(and z:8 1:8)")
	drop, one := rule(t, "(add ?a:8 0:8)", "?a:8"), rule(t, "(mul ?a:8 1:8)", "?a:8")
	few := rule(t, "(mul ?a:8 #c:8)", "(and ?a:8 #c:8)", guarded(t, api.GuardBelow, "?a:8", "2:8"))
	table, e := analysis.Run(g)
	if e != api.OK {
		t.Fatal(e)
	}
	check := func(want bool, l ...api.Rule) {
		t.Helper()
		if ok, e := search.Closed(g, table, l); ok != want || e != api.OK {
			t.Errorf("%v: %v, %d", l, ok, e)
		}
	}
	check(true)
	check(false, drop)
	check(false, one)
	check(true, few)
	check(false, few, drop)
	check(false, drop, few)
	join(t, g, "(add x:8 0:8)", "x:8")
	g.Rebuild()
	check(false, drop)
	join(t, g, "(add y:8 0:8)", "y:8")
	g.Rebuild()
	check(true, drop)
	check(false, drop, one)
	check(false, one, drop)
	join(t, g, "(mul z:8 1:8)", "z:8")
	g.Rebuild()
	check(true, drop, one, few, drop)
	// With a table that excludes nothing, the guard holds, and the instance is not in the class.
	small := graph(t, "(mul (lshr z:8 7:8) 1:8)", "(and (lshr z:8 7:8) 1:8)")
	table, e = analysis.Run(small)
	if ok, code := search.Closed(small, table, []api.Rule{few}); ok || code != api.OK || e != api.OK {
		t.Error(ok, code, e)
	}
	if ok, code := search.Closed(small, nil, []api.Rule{few}); !ok || code != api.OK {
		t.Error(ok, code)
	}
	join(t, small, "(mul (lshr z:8 7:8) 1:8)", "(and (lshr z:8 7:8) 1:8)")
	small.Rebuild()
	if ok, code := search.Closed(small, table, []api.Rule{few}); !ok || code != api.OK {
		t.Error(ok, code)
	}
	// The first rule with an error counts, also after one with a match that is not done.
	wrong, longer := rule(t, "x:8", "x:8"), api.Rule{}
	for i, x := range []struct {
		l    []api.Rule
		want api.Errno
	}{{[]api.Rule{wrong}, api.ErrOp}, {[]api.Rule{drop, wrong, longer}, api.ErrOp}, {[]api.Rule{drop, longer, wrong}, api.ErrLong}, {[]api.Rule{wrong, drop}, api.ErrOp}} {
		fresh := graph(t, "(add x:8 0:8)")
		if ok, e := search.Closed(fresh, nil, x.l); ok || e != x.want {
			t.Errorf("case %d: %v, %d", i, ok, e)
		}
	}
	// An e-graph that does not exist has no matches that are done, whatever the rules are.
	for i, g := range unusable(t) {
		if ok, e := search.Closed(g, nil, nil); ok || e != api.ErrNil {
			t.Errorf("e-graph %d: %v, %d", i, ok, e)
		}
	}
}

// TestMemory checks that results share no memory with each other, and that nothing is changed.
func TestMemory(t *testing.T) {
	g := graph(t, "(add x:8 3:8)", "(add y:8 3:8)")
	r := rule(t, "(add ?a:8 #c:8)", "(add ?a:8 (eval (not (not #c:8))))", guarded(t, api.GuardPred, "(ult #c:8 9:8)"))
	before := g.Len()
	l, e := search.All(g, nil, r, 9)
	if e != api.OK || len(l) != 2 {
		t.Fatal(l, e)
	}
	for _, m := range l {
		if !search.Done(g, r, m) {
			t.Error(m)
		}
		m.Roots[0], m.Holes[0].Id, m.Nums[0].Val = 77, 77, 77
	}
	again, _ := search.All(g, nil, r, 9)
	if ok, e := search.Closed(g, nil, []api.Rule{r}); !ok || e != api.OK || len(again) != 2 || again[0].Roots[0] == 77 || g.Len() != before {
		t.Error(again, ok, e)
	}
	if want := "(add ?a:8 (eval (not (not #c:8))))"; termtext.Print(r.Right) != want {
		t.Error(termtext.Print(r.Right))
	}
}
