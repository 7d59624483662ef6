package apply_test

import (
	"math"
	"slices"
	"strconv"
	"strings"
	"testing"

	"saturate/api"
	"saturate/apply"
	"saturate/egraph"
	"saturate/represent"
	"saturate/ruletext"
	"saturate/termtext"
)

// read returns the term or pattern with a text.
func read(t *testing.T, s string) api.Term {
	t.Helper()
	x, e := termtext.Parse(s)
	if e != api.OK {
		t.Fatal(s, e)
	}
	return x
}

// one returns the rule whose notation has these elements after its name.
func one(t *testing.T, s string) api.Rule {
	t.Helper()
	l, at, e := ruletext.Parse("(rule r " + s + ")")
	if e != api.OK || len(l) != 1 {
		t.Fatal(s, at, e)
	}
	return l[0]
}

// graph returns an e-graph with terms.
func graph(t *testing.T, l ...string) *egraph.Graph {
	t.Helper()
	g := egraph.New()
	for _, s := range l {
		if _, e := represent.AddTerm(g, read(t, s)); e != api.OK {
			t.Fatal(s, e)
		}
	}
	return g
}

// id returns the id whose original term has a text.
func id(t *testing.T, g *egraph.Graph, s string) int {
	t.Helper()
	for k := range g.Len() {
		if s == original(g, k) {
			return k
		}
	}
	t.Fatal("there is no", s)
	return 0
}

// original returns the text of the original term of an id.
func original(g *egraph.Graph, id int) string {
	x, e := represent.Term(g, id)
	if e != api.OK {
		return ""
	}
	return termtext.Print(x)
}

// join joins the ids with two original terms.
func join(t *testing.T, g *egraph.Graph, a, b string) {
	t.Helper()
	if ok, e := g.Union(id(t, g, a), id(t, g, b), api.WhyGiven); !ok || e != api.OK {
		t.Fatal(a, b, e)
	}
}

// match returns the match with entries such as a=3 for holes and #c=3 for nums.
func match(t *testing.T, s string) api.Match {
	t.Helper()
	var m api.Match
	for _, entry := range strings.Fields(s) {
		name, text, _ := strings.Cut(entry, "=")
		n, err := strconv.Atoi(text)
		if err != nil {
			t.Fatal(s)
		}
		if num, ok := strings.CutPrefix(name, "#"); ok {
			m.Nums = append(m.Nums, api.Bind{Name: num, Val: uint64(n)})
		} else {
			m.Holes = append(m.Holes, api.Pair{Name: name, Id: n})
		}
	}
	return m
}

// text returns the text of a substitution.
func text(subs []api.Sub) string {
	var l []string
	for _, s := range subs {
		l = append(l, s.Name+"="+termtext.Print(s.Term))
	}
	return strings.Join(l, " ")
}

// unusable returns e-graphs that are nil or that New did not make.
func unusable(t *testing.T) []*egraph.Graph {
	var zero egraph.Graph
	used := *graph(t, "(add x:8 0:8)")
	return []*egraph.Graph{nil, &zero, &used}
}

// tower returns an e-graph of x:8 and further nodes, each of which has only the one before as Args.
func tower(t *testing.T, op api.Op, args, height int) *egraph.Graph {
	t.Helper()
	g := graph(t, "x:8")
	for k := range height {
		n := api.Node{Op: op, Width: 8, Args: slices.Repeat([]int{k}, args)}
		if _, e := g.Add(n); e != api.OK {
			t.Fatal(e)
		}
	}
	return g
}

// TestSubs checks P31.1 where there is no error.
func TestSubs(t *testing.T) {
	g := graph(t, "(add x:8 (mul y:8 3:8))", "(not z:4)", "0:8")
	// the ids: x 0, y 1, 3:8 2, mul 3, add 4, z 5, not 6, 0:8 7
	join(t, g, "x:8", "(mul y:8 3:8)") // the e-graph may be dirty
	for _, c := range []struct {
		rule, match, want string
	}{
		{"(add ?a:8 0:8) ?a:8", "a=0", "a=x:8"}, {"(add ?a:8 0:8) ?a:8", "a=4", "a=(add x:8 (mul y:8 3:8))"},
		// the least id of the class
		{"(add ?a:8 0:8) ?a:8", "a=3", "a=x:8"},
		// holes first, each kind by name, whatever the order in the rule and in the match is
		{"(sub (mul #b:8 ?c:8) (mul #a:8 (sub ?d:8 ?a2:8))) 0:8", "#b=7 d=1 c=4 #a=9 a2=2", "a2=3:8 c=(add x:8 (mul y:8 3:8)) d=y:8 a=9:8 b=7:8"},
		// the first entry counts, and others do not matter
		{"(add ?a:8 #c:8) ?a:8", "b=99 a=1 a=2 #c=4 #c=5 c=6 #a=1 a=99", "a=y:8 c=4:8"},
		// values are reduced modulo 2^width, as term.Const does
		{"(add #c:4 1:4) 0:4", "#c=35", "c=3:4"}, {"#d:64 #d:64", "#d=-1", "d=18446744073709551615:64"}, {"#d:1 #d:1", "#d=-2", "d=0:1"},
		// Roots count as holes
		{"(all (r (add ?a:8 0:8)) (q 0:8) (_ ?a:8)) ?q:8", "r=4 a=0 q=7", "a=x:8 q=0:8 r=(add x:8 (mul y:8 3:8))"}, {"(all (r #c:8)) ?r:8", "#c=1 r=2", "r=3:8 c=1:8"},
		// guards and Right have no names of their own
		{"(add 1:8 0:8) 1:8 (if (eq 1:8 1:8))", "", ""}, {"(not ?a:4) ?a:4 (equal ?a:4 0:4)", "a=5", "a=z:4"},
		// widths are not compared
		{"(not ?a:4) ?a:4", "a=0", "a=x:8"},
	} {
		m := match(t, c.match)
		subs, e := apply.Subs(g, one(t, c.rule), m)
		if e != api.OK || text(subs) != c.want {
			t.Errorf("%s: %s, %d, not %s", c.rule, text(subs), e, c.want)
		}
	}
	if subs, e := apply.Subs(g, api.Rule{}, api.Match{}); e != api.OK || len(subs) != 0 {
		t.Error(subs, e)
	}
}

// TestSubsErrors checks the errors of P31.1 and their order.
func TestSubsErrors(t *testing.T) {
	large, deep := tower(t, api.OpAdd, 2, 12), tower(t, api.OpNot, 1, 64)
	two := one(t, "(add (sub ?b:8 #c:8) ?a:8) ?a:8")
	rooted := one(t, "(all (r (not ?a:8)) (s (neg ?a:8))) ?a:8")
	most, least := strconv.Itoa(math.MaxInt), strconv.Itoa(math.MinInt)
	for i, c := range []struct {
		g     *egraph.Graph
		rule  api.Rule
		match string
		want  api.Errno
	}{
		{large, two, "a=0 b=11 #c=1", api.OK}, {large, two, "b=0 #c=1", api.ErrBind}, {large, two, "a=0 #c=1", api.ErrBind}, {large, two, "a=0 b=0", api.ErrBind}, {large, two, "", api.ErrBind}, {large, two, "a=0 b=0 c=0 #a=0 #b=0", api.ErrBind}, {large, two, "#a=0 b=0 #c=1", api.ErrBind},
		{large, rooted, "a=0 r=0 s=0", api.OK}, {large, rooted, "a=0 r=0", api.ErrBind}, {large, rooted, "a=0 s=0", api.ErrBind}, {large, rooted, "r=0 s=0", api.ErrBind},
		{large, two, "a=12 b=0 #c=1", api.ErrLong}, {large, two, "a=0 b=12 #c=1", api.ErrLong}, {large, two, "a=13 b=0 #c=1", api.ErrRange}, {large, two, "a=0 b=-1 #c=1", api.ErrRange}, {deep, two, "a=0 b=63 #c=1", api.OK}, {deep, two, "a=0 b=64 #c=1", api.ErrLong}, {large, two, "a=" + most + " b=0 #c=1", api.ErrRange}, {large, two, "a=" + least + " b=0 #c=1", api.ErrRange},
		// the first hole by name, and ErrBind before
		{large, two, "b=12 a=13 #c=1", api.ErrRange}, {large, two, "b=13 a=12 #c=1", api.ErrLong}, {large, two, "a=12 #c=1", api.ErrBind}, {large, two, "a=12 b=13", api.ErrBind}, {large, two, "a=13 a=0 b=0 #c=1", api.ErrRange},
	} {
		if subs, e := apply.Subs(c.g, c.rule, match(t, c.match)); e != c.want || e != api.OK && subs != nil {
			t.Errorf("case %d: %s, %d, not %d", i, text(subs), e, c.want)
		}
	}
	for i, g := range unusable(t) {
		for _, r := range []api.Rule{two, {}} {
			if subs, e := apply.Subs(g, r, api.Match{}); e != api.ErrNil || subs != nil {
				t.Errorf("e-graph %d: %v, %d", i, subs, e)
			}
		}
	}
}

// TestOne checks P31.2: which instances are added, in which order, and what the Use contains.
func TestOne(t *testing.T) {
	const sum = "(add x:8 y:8)"
	for _, c := range []struct {
		rule, match string
		added       []string // the original terms of the new ids
		subs        string
		want        []string // the original terms of A, B and Ids
	}{
		{"(not ?a:8) ?a:8", "a=0", []string{"(not x:8)"}, "a=x:8", []string{"(not x:8)", "x:8"}},
		{"(add ?a:8 ?b:8) (add ?b:8 ?a:8)", "a=0 b=1", []string{"(add y:8 x:8)"}, "a=x:8 b=y:8", []string{sum, "(add y:8 x:8)"}},
		{"(neg ?a:8) (add (not ?a:8) 1:8)", "a=0", []string{"(neg x:8)", "(not x:8)", "1:8", "(add (not x:8) 1:8)"}, "a=x:8", []string{"(neg x:8)", "(add (not x:8) 1:8)"}},
		{"(mul ?a:8 #c:8) (shl ?a:8 (eval (sub #c:8 1:8)))", "a=1 #c=2", []string{"2:8", "(mul y:8 2:8)", "1:8", "(shl y:8 1:8)"}, "a=y:8 c=2:8", []string{"(mul y:8 2:8)", "(shl y:8 1:8)"}},
		// Of the atoms without a Root only the first one is added.
		{"(all (_ (neg ?a:8)) (_ (sub ?a:8 ?b:8))) ?b:8", "a=0 b=1", []string{"(neg x:8)"}, "a=x:8 b=y:8", []string{"(neg x:8)", "y:8"}},
		{"(all (r (neg ?a:8))) (not ?r:8)", "a=0 r=1", []string{"(neg x:8)", "(not y:8)"}, "a=x:8 r=y:8", []string{"(neg x:8)", "(not y:8)", "y:8", "(neg x:8)"}},
		{"(all (_ (neg ?a:8)) (r (sub ?a:8 ?b:8)) (_ (mul ?a:8 ?b:8)) (b (or ?a:8 ?a:8))) 0:8", "a=0 b=1 r=3", []string{"(neg x:8)", "(sub x:8 y:8)", "(or x:8 x:8)", "0:8"}, "a=x:8 b=y:8 r=(add x:8 y:8)", []string{"(neg x:8)", "0:8", sum, "(sub x:8 y:8)", "y:8", "(or x:8 x:8)"}},
		{"(all (s (neg ?a:8)) (r (sub ?a:8 ?b:8)) (_ (mul ?a:8 ?b:8)) (s (not ?r:8))) (xor ?r:8 ?s:8)", "a=0 b=1 r=3 s=1", []string{"(neg x:8)", "(sub x:8 y:8)", "(not (add x:8 y:8))", "(xor (add x:8 y:8) y:8)"}, "a=x:8 b=y:8 r=(add x:8 y:8) s=y:8", []string{"(neg x:8)", "(xor (add x:8 y:8) y:8)", "y:8", "(neg x:8)", sum, "(sub x:8 y:8)", "y:8", "(not (add x:8 y:8))"}},
		// Of the guards only those of the kind GuardEqual have instances. None of them needs to hold.
		{"(neg ?a:8) ?a:8 (if (eq 2:8 3:8)) (below ?a:8 4:8) (zeros ?a:8 5:8)", "a=3", []string{"(neg (add x:8 y:8))"}, "a=(add x:8 y:8)", []string{"(neg (add x:8 y:8))", sum, sum, sum}},
		{"(urem ?a:8 #c:8) (and ?a:8 #c:8) (below ?a:8 #c:8) (equal (neg ?a:8) (sub #c:8 ?a:8)) (if (eq #c:8 8:8)) (zeros ?a:8 4:8) (equal ?a:8 1:8)", "a=1 #c=9", []string{"9:8", "(urem y:8 9:8)", "(neg y:8)", "(sub 9:8 y:8)", "1:8", "(and y:8 9:8)"}, "a=y:8 c=9:8", []string{"(urem y:8 9:8)", "(and y:8 9:8)", "y:8", "(neg y:8)", "(sub 9:8 y:8)", "y:8", "y:8", "1:8"}},
		{"(all (_ 1:8) (r (neg ?a:8))) 2:8 (equal 4:8 3:8) (below ?r:8 5:8)", "a=0 r=3", []string{"1:8", "(neg x:8)", "4:8", "3:8", "2:8"}, "a=x:8 r=(add x:8 y:8)", []string{"1:8", "2:8", sum, "(neg x:8)", "4:8", "3:8", sum}},
		// An instance is given by its own id, and not by the least one of its class.
		{"(all (_ (neg ?a:8)) (_ ?b:8)) 7:8 (equal 7:8 (add ?a:8 ?b:8))", "a=0 b=1", []string{"(neg x:8)"}, "a=x:8 b=y:8", []string{"(neg x:8)", "7:8", "7:8", sum}},
		{"(all (r 7:8)) (neg ?r:8)", "r=2", []string{"(neg (add x:8 y:8))"}, "r=(add x:8 y:8)", []string{"7:8", "(neg (add x:8 y:8))", sum, "7:8"}},
	} {
		g := graph(t, sum, "7:8")
		join(t, g, sum, "7:8")
		g.Rebuild()
		u, ok, e := apply.One(g, []api.Rule{{}, one(t, c.rule), {}}, 1, match(t, c.match), 5)
		var added, got []string
		for k := 4; k < g.Len(); k++ {
			added = append(added, original(g, k))
		}
		for _, k := range append([]int{u.A, u.B}, u.Ids...) {
			got = append(got, original(g, k))
		}
		if e != api.OK || !ok || u.Rule != 1 || text(u.Subs) != c.subs || !slices.Equal(added, c.added) || !slices.Equal(got, c.want) {
			t.Errorf("%s: %v, %d, %d, %s, %q, %q", c.rule, ok, e, u.Rule, text(u.Subs), added, got)
		}
		links := g.Links()
		if last := links[len(links)-1]; last != (api.Link{A: u.A, B: u.B, Why: 5}) || !g.Same(u.A, u.B) || !g.Dirty() {
			t.Errorf("%s: %v", c.rule, links)
		}
	}
}

// TestOneTwice checks P31.2 where A and B are equal already.
func TestOneTwice(t *testing.T) {
	g := graph(t, "(add x:8 0:8)")
	rules := []api.Rule{one(t, "(all (r (add ?a:8 0:8))) ?a:8 (zeros ?a:8 1:8)")}
	first, ok, e := apply.One(g, rules, 0, match(t, "a=0 r=2"), 0)
	if !ok || e != api.OK || !slices.Equal(first.Ids, []int{2, 2, 0}) {
		t.Fatal(first, ok, e)
	}
	// The class of r has another least id now.
	u, ok, e := apply.One(g, rules, 0, match(t, "a=0 r=2"), 7)
	if ok || e != api.OK || text(u.Subs) != "a=x:8 r=x:8" || u.A != 2 || u.B != 0 || !slices.Equal(u.Ids, []int{0, 2, 0}) || len(g.Links()) != 1 {
		t.Error(u, ok, e, g.Links())
	}
}

// TestOneErrors checks the errors of P31.2 and their order, and that nodes that were added before stay.
func TestOneErrors(t *testing.T) {
	deep := func() *egraph.Graph { return tower(t, api.OpNot, 1, 63) } // x:8 has the id 0, and the term of the id 63 has the greatest depth
	rules := []api.Rule{
		one(t, "(neg ?a:8) (add ?a:8 1:8)"), one(t, "(all (_ ?a:8) (r (neg ?b:8)) (_ ?c:8) (_ ?d:8)) 1:8 (equal (neg ?c:8) (neg ?d:8))"), one(t, "?a:8 (neg ?a:8)"), one(t, "(neg ?a:0) 1:0"), one(t, "(eq ?a:8 1:8) 1:1"),
		{Right: read(t, "?a:8")}, {Left: []api.Atom{{Pattern: read(t, "?a:8")}}, Right: read(t, "?b:8")}, {Left: []api.Atom{{Pattern: read(t, "1:8")}}, Right: read(t, "1:4")},
		{Left: []api.Atom{{Pattern: read(t, "x:4")}}, Right: read(t, "1:4")}, one(t, "(neg ?a:8) 1:8 (equal 2:8 3:8)"),
	}
	for i, c := range []struct {
		at    int
		match string
		want  api.Errno
		added int
	}{
		{0, "a=0", api.OK, 3}, {0, "a=62", api.OK, 3}, {0, "", api.ErrBind, 0}, {0, "a=64", api.ErrRange, 0},
		// the first instance, those of atoms and guards, and Right
		{0, "a=63", api.ErrLong, 0}, {2, "a=62", api.OK, 1}, {2, "a=63", api.ErrLong, 0}, {9, "a=62", api.OK, 4}, {9, "a=63", api.ErrLong, 0}, {1, "a=0 b=63 c=0 d=0 r=0", api.ErrLong, 0}, {1, "a=0 b=0 c=63 d=0 r=0", api.ErrLong, 1}, {1, "a=0 b=0 c=1 d=63 r=0", api.ErrLong, 2}, {1, "a=0 b=0 c=1 d=2 r=0", api.OK, 4}, {1, "a=63 b=62 c=62 d=62 r=63", api.OK, 2},
		// Rules that are not valid or generic are not meant, but have the errors of their instances.
		{3, "a=0", api.ErrWidth, 0}, {4, "a=0", api.OK, 3}, {5, "a=0", api.ErrOp, 0}, {6, "a=0 b=0", api.ErrBind, 0}, {7, "", api.ErrWidth, 2}, {8, "", api.ErrBind, 0},
	} {
		g := deep()
		u, ok, e := apply.One(g, rules, c.at, match(t, c.match), 0)
		if e != c.want || ok != (e == api.OK) || g.Len() != 64+c.added {
			t.Errorf("case %d: %v, %v, %d, and %d nodes are new", i, u, ok, e, g.Len()-64)
		}
		if e != api.OK && !isZero(u) {
			t.Errorf("case %d: %v", i, u)
		}
		if e != api.OK && len(g.Links()) != 0 {
			t.Errorf("case %d: %v", i, g.Links())
		}
	}
	for i, g := range append(unusable(t), deep()) {
		for _, c := range []struct {
			at, why int
			rules   []api.Rule
		}{{0, -1, rules}, {0, math.MinInt, rules}, {0, api.WhyGiven, rules}, {-1, 0, rules}, {10, 0, rules}, {math.MaxInt, 0, rules}, {math.MinInt, 0, rules}, {0, 0, nil}} {
			if u, ok, e := apply.One(g, c.rules, c.at, match(t, "a=0"), c.why); e != api.ErrArg || ok || !isZero(u) {
				t.Errorf("e-graph %d: %v, %v, %d", i, u, ok, e)
			}
		}
	}
	for i, g := range unusable(t) {
		if u, ok, e := apply.One(g, rules, 0, match(t, ""), math.MaxInt); e != api.ErrNil || ok || !isZero(u) {
			t.Errorf("e-graph %d: %v, %v, %d", i, u, ok, e)
		}
	}
}

// isZero reports whether u is the zero Use.
func isZero(u api.Use) bool {
	return u.Rule == 0 && u.A == 0 && u.B == 0 && len(u.Subs) == 0 && len(u.Ids) == 0
}

// TestOneFull checks that an e-graph without room gives the error of represent.AddTerm (P31.2).
func TestOneFull(t *testing.T) {
	g := graph(t, "x:8", "1:8")
	for k := 0; g.Len() < api.MaxNodes-1; k++ {
		if _, e := g.Add(api.Node{Op: api.OpConst, Width: 32, Val: uint64(k)}); e != api.OK {
			t.Fatal(e)
		}
	}
	rules := []api.Rule{one(t, "(neg ?a:8) (not ?a:8)")}
	if u, ok, e := apply.One(g, rules, 0, match(t, "a=0"), 0); e != api.ErrFull || ok || !isZero(u) || original(g, api.MaxNodes-1) != "(neg x:8)" || len(g.Links()) != 0 {
		t.Error(u, ok, e)
	}
	if u, ok, e := apply.One(g, []api.Rule{one(t, "(neg ?a:8) 1:8")}, 0, match(t, "a=0"), 0); e != api.OK || !ok || u.A != api.MaxNodes-1 || u.B != 1 {
		t.Error(u, ok, e)
	}
}
