package runner_test

import (
	"math"
	"slices"
	"strings"
	"testing"

	"saturate/api"
	"saturate/egraph"
	"saturate/represent"
	"saturate/rule"
	"saturate/ruletext"
	"saturate/runner"
	"saturate/term"
	"saturate/termtext"
)

// read returns the term or pattern with a text.
func read(t *testing.T, s string) api.Term {
	t.Helper()
	x, e := termtext.Parse(s)
	if e != api.OK {
		t.Fatal(s, e)
	}
	return x
}

// list returns the rules whose notations have these elements after their names.
func list(t *testing.T, l ...string) []api.Rule {
	t.Helper()
	var rules []api.Rule
	for _, s := range l {
		parsed, at, e := ruletext.Parse("(rule r " + s + ")")
		if e != api.OK || len(parsed) != 1 {
			t.Fatal(s, at, e)
		}
		rules = append(rules, parsed...)
	}
	return rules
}

// basic returns those of the basic rules that have instances of a width.
func basic(t *testing.T, width int) []api.Rule {
	t.Helper()
	l, at, e := ruletext.Parse(ruletext.Basic())
	if e != api.OK {
		t.Fatal(at, e)
	}
	var rules []api.Rule
	for _, r := range l {
		x, e := rule.At(r, width)
		if e != api.OK {
			t.Fatal(r, e)
		}
		rules = append(rules, x)
	}
	return rules
}

// graph returns an e-graph with terms.
func graph(t *testing.T, l ...string) *egraph.Graph {
	t.Helper()
	g := egraph.New()
	for _, s := range l {
		if _, e := represent.AddTerm(g, read(t, s)); e != api.OK {
			t.Fatal(s, e)
		}
	}
	return g
}

// class returns the class of a term, or -1.
func class(t *testing.T, g *egraph.Graph, s string) int {
	t.Helper()
	id, ok := represent.Find(g, read(t, s))
	if !ok {
		return -1
	}
	return id
}

// join joins the classes of two terms.
func join(t *testing.T, g *egraph.Graph, a, b string) {
	t.Helper()
	if ok, e := g.Union(class(t, g, a), class(t, g, b), api.WhyGiven); !ok || e != api.OK {
		t.Fatal(a, b, ok, e)
	}
}

// unusable returns e-graphs that are nil or that New did not make.
func unusable(t *testing.T) []*egraph.Graph {
	var zero egraph.Graph
	used := *graph(t, "(add x:8 0:8)")
	return []*egraph.Graph{nil, &zero, &used}
}

func sameUse(a, b api.Use) bool {
	return a.Rule == b.Rule && a.A == b.A && a.B == b.B && slices.Equal(a.Ids, b.Ids) && slices.EqualFunc(a.Subs, b.Subs, func(a, b api.Sub) bool { return a.Name == b.Name && term.Same(a.Term, b.Term) })
}

func sameLog(a, b []api.Use) bool {
	return slices.EqualFunc(a, b, sameUse)
}

func sameIteration(a, b api.Iteration) bool {
	return slices.Equal(a.Found, b.Found) && slices.Equal(a.Applied, b.Applied) && a.Unions == b.Unions && a.Nodes == b.Nodes && a.Classes == b.Classes && a.Banned == b.Banned
}

func sameReport(a, b api.Report) bool {
	return a.Stop == b.Stop && slices.EqualFunc(a.Iters, b.Iters, sameIteration)
}

// ample returns a budget that hardly bounds anything but the iterations.
func ample(iters int) api.Budget {
	return api.Budget{Iters: iters, Nodes: 10000, Matches: 10000, Limit: 10000, Ban: 1}
}

// TestClamp checks P33.1.
func TestClamp(t *testing.T) {
	numbers := []int{math.MinInt, -1, 0, 1, 2, 999, 1000, 1001, 65535, 65536, 65537, math.MaxInt}
	for _, n := range numbers {
		small, other := min(max(n, 0), 1000), min(max(n, 1), 65536)
		for _, c := range []struct{ b, want api.Budget }{
			{api.Budget{Iters: n, Nodes: 7, Matches: 8, Limit: 9, Ban: 10}, api.Budget{Iters: small, Nodes: 7, Matches: 8, Limit: 9, Ban: 10}},
			{api.Budget{Iters: 6, Nodes: n, Matches: 8, Limit: 9, Ban: 10, Facts: true}, api.Budget{Iters: 6, Nodes: other, Matches: 8, Limit: 9, Ban: 10, Facts: true}},
			{api.Budget{Iters: 6, Nodes: 7, Matches: n, Limit: 9, Ban: 10}, api.Budget{Iters: 6, Nodes: 7, Matches: other, Limit: 9, Ban: 10}},
			{api.Budget{Iters: 6, Nodes: 7, Matches: 8, Limit: n, Ban: 10, Facts: true}, api.Budget{Iters: 6, Nodes: 7, Matches: 8, Limit: other, Ban: 10, Facts: true}},
			{api.Budget{Iters: 6, Nodes: 7, Matches: 8, Limit: 9, Ban: n}, api.Budget{Iters: 6, Nodes: 7, Matches: 8, Limit: 9, Ban: other}},
		} {
			if got := runner.Clamp(c.b); got != c.want {
				t.Errorf("%v: %v, not %v", c.b, got, c.want)
			}
		}
	}
	if got, want := runner.Clamp(api.Budget{}), (api.Budget{Nodes: 1, Matches: 1, Limit: 1, Ban: 1}); got != want {
		t.Error(got)
	}
}

// TestCheck checks P33.1.
func TestCheck(t *testing.T) {
	rules := list(t, "(add ?a:8 0:8) ?a:8", "(add ?a:0 0:0) ?a:0", "(not (not ?a:0)) ?a:0", "?a:8 ?a:8 (if (eq 1:0 1:0))")
	fine, generic, other, guarded := rules[0], rules[1], rules[2], rules[3]
	unnamed, unbound, empty := fine, fine, fine
	unnamed.Name, unbound.Right, empty.Left = "R", read(t, "?b:8"), nil
	for i, c := range []struct {
		l    []api.Rule
		at   int
		want api.Errno
	}{
		{nil, 0, api.OK}, {[]api.Rule{fine}, 0, api.OK}, {[]api.Rule{fine, fine, fine}, 0, api.OK}, {slices.Repeat([]api.Rule{fine}, 1024), 0, api.OK},
		{[]api.Rule{unnamed}, 0, api.ErrName}, {[]api.Rule{fine, unbound}, 1, api.ErrBind}, {[]api.Rule{fine, fine, empty}, 2, api.ErrLong}, {[]api.Rule{unbound, unnamed}, 0, api.ErrBind}, {[]api.Rule{fine, unnamed, unbound, unnamed}, 1, api.ErrName},
		{[]api.Rule{generic}, 0, api.ErrWidth}, {[]api.Rule{fine, other, generic}, 1, api.ErrWidth}, {[]api.Rule{fine, fine, guarded}, 2, api.ErrWidth},
		// An error of a rule is named before generic rules, and too many rules before both.
		{[]api.Rule{generic, fine, unnamed}, 2, api.ErrName}, {[]api.Rule{generic, unbound, generic}, 1, api.ErrBind},
		{slices.Repeat([]api.Rule{fine}, 1025), 0, api.ErrLong}, {slices.Repeat([]api.Rule{unnamed}, 1025), 0, api.ErrLong}, {slices.Repeat([]api.Rule{generic}, 1025), 0, api.ErrLong}, {append(slices.Repeat([]api.Rule{fine}, 1023), generic), 1023, api.ErrWidth}, {append(slices.Repeat([]api.Rule{generic}, 1023), unnamed), 1023, api.ErrName}, {make([]api.Rule, 5000), 0, api.ErrLong},
	} {
		if at, e := runner.Check(c.l); at != c.at || e != c.want {
			t.Errorf("case %d: %d, %d, not %d, %d", i, at, e, c.at, c.want)
		}
		// P33.3: Run returns the same error, but that of a nil Graph comes first.
		g := graph(t, "(add x:8 0:8)")
		log, rep, e := runner.Run(g, c.l, []api.Use{{Rule: 3}}, ample(1))
		if e != c.want || e != api.OK && (len(log) != 0 || !sameReport(rep, api.Report{}) || g.Len() != 3 || len(g.Links()) != 0) {
			t.Errorf("case %d: %v, %v, %d, not %d", i, log, rep, e, c.want)
		}
		for _, g := range unusable(t) {
			if log, rep, e := runner.Run(g, c.l, []api.Use{{Rule: 3}}, ample(1)); e != api.ErrNil || len(log) != 0 || !sameReport(rep, api.Report{}) {
				t.Errorf("case %d: %v, %v, %d", i, log, rep, e)
			}
		}
	}
}

// TestExamples checks the example of chapter 33 and the examples 1 and 3 of the document.
func TestExamples(t *testing.T) {
	zero := list(t, "(add ?a:8 0:8) ?a:8")
	g := graph(t, "(add (add x:8 0:8) 0:8)")
	log, rep, e := runner.Run(g, zero, nil, ample(10))
	want := api.Report{Stop: api.StopSaturated, Iters: []api.Iteration{{Found: []int{2}, Applied: []int{1}, Unions: 1, Nodes: 4, Classes: 2}, {Found: []int{1}, Applied: []int{0}, Nodes: 4, Classes: 2}}}
	if e != api.OK || !sameReport(rep, want) || class(t, g, "(add (add x:8 0:8) 0:8)") != class(t, g, "x:8") {
		t.Error(rep, e)
	}
	if !sameLog(log, []api.Use{{Subs: []api.Sub{{Name: "a", Term: read(t, "x:8")}}, A: 2, B: 0}}) {
		t.Error(log)
	}
	g = graph(t, "(add (mul x:8 2:8) 0:8)")
	log, rep, e = runner.Run(g, append(zero, list(t, "(mul ?a:8 2:8) (shl ?a:8 1:8)")...), nil, ample(10))
	if e != api.OK || rep.Stop != api.StopSaturated || len(log) != 2 || class(t, g, "(shl x:8 1:8)") != class(t, g, "(add (mul x:8 2:8) 0:8)") {
		t.Error(rep, e)
	}
	g = graph(t, "(add x:8 y:8)")
	log, rep, e = runner.Run(g, list(t, "(add ?a:8 ?b:8) (add ?b:8 ?a:8)"), nil, ample(10))
	if e != api.OK || rep.Stop != api.StopSaturated || len(rep.Iters) != 2 || len(log) != 1 || g.Count() != 3 || class(t, g, "(add y:8 x:8)") != class(t, g, "(add x:8 y:8)") {
		t.Error(rep, e)
	}
}

// TestStops checks when a run stops (P33.3).
func TestStops(t *testing.T) {
	build := func() *egraph.Graph { return graph(t, "(not (not (not x:8)))") }
	// There is always something left to do.
	grow := list(t, "(not ?a:8) (not (add ?a:8 1:8))")
	for _, iters := range []int{-3, 0, 1, 2, 5} {
		g := build()
		_, rep, e := runner.Run(g, grow, nil, ample(iters))
		if e != api.OK || rep.Stop != api.StopIters || len(rep.Iters) != max(iters, 0) {
			t.Error(iters, rep, e)
		}
	}
	// The first iteration joins, and the second one finds that nothing is left to do.
	shrink := list(t, "(not (not ?a:8)) ?a:8")
	for iters, stop := range []int{api.StopIters, api.StopIters, api.StopSaturated, api.StopSaturated, api.StopSaturated} {
		g := build()
		_, rep, e := runner.Run(g, shrink, nil, ample(iters))
		if e != api.OK || rep.Stop != stop || len(rep.Iters) != min(iters, 2) {
			t.Error(iters, rep, e)
		}
		if iters > 0 && (rep.Iters[0].Unions != 2 || rep.Iters[0].Classes != 2 || rep.Iters[0].Nodes != 4) {
			t.Error(iters, rep)
		}
	}
	// Without rules the first iteration is the last one.
	for _, facts := range []bool{false, true} {
		b := ample(10)
		b.Facts = facts
		g := build()
		log, rep, e := runner.Run(g, nil, nil, b)
		if e != api.OK || len(log) != 0 || !sameReport(rep, api.Report{Stop: api.StopSaturated, Iters: []api.Iteration{{Nodes: 4, Classes: 4}}}) {
			t.Error(log, rep, e)
		}
		log, rep, e = runner.Run(egraph.New(), shrink, nil, b)
		if e != api.OK || len(log) != 0 || !sameReport(rep, api.Report{Stop: api.StopSaturated, Iters: []api.Iteration{{Found: []int{0}, Applied: []int{0}}}}) {
			t.Error(log, rep, e)
		}
	}
	// At most 1000 iterations are performed, and a run that is stopped by its nodes or by a conflict reports the last one too.
	g := graph(t, "x:8")
	_, rep, e := runner.Run(g, list(t, "?a:8 ?a:8", "(add ?a:8 ?b:8) ?b:8"), nil, api.Budget{Iters: math.MaxInt, Nodes: 1, Limit: 1, Ban: 1, Matches: 1})
	if e != api.OK || rep.Stop != api.StopNodes || len(rep.Iters) != 1 {
		t.Error(rep, e)
	}
	g = graph(t, "x:8", "y:8")
	_, rep, e = runner.Run(g, list(t, "?a:8 ?a:8"), nil, api.Budget{Iters: math.MaxInt, Nodes: 10, Limit: 1, Ban: 65536, Matches: 2})
	if e != api.OK || rep.Stop != api.StopIters || len(rep.Iters) != 1000 || rep.Iters[0].Found[0] != 2 || rep.Iters[999].Found[0] != -1 || rep.Iters[999].Banned != 1 {
		t.Error(rep.Stop, len(rep.Iters), e)
	}
}

// TestRebuilds checks that Run accepts a dirty e-graph, also without any iteration (P33.3).
func TestRebuilds(t *testing.T) {
	for _, iters := range []int{0, 1} {
		g := graph(t, "(not x:8)", "(not y:8)")
		join(t, g, "x:8", "y:8")
		_, rep, e := runner.Run(g, list(t, "(not ?a:8) (sub 255:8 ?a:8)"), nil, ample(iters))
		if e != api.OK || g.Dirty() || !g.Same(1, 3) || len(rep.Iters) != iters {
			t.Error(iters, rep, e)
		}
		if iters == 1 && rep.Iters[0].Found[0] != 1 {
			t.Error(rep)
		}
	}
}

// TestLog checks that a run extends the log, that the reason of a link is the index of its Use, and that nothing is shared (P33.2, P33.3).
func TestLog(t *testing.T) {
	fresh := func() api.Use {
		return api.Use{Rule: 5, Subs: []api.Sub{{Name: "a", Term: read(t, "(not x:8)")}}, A: 1, B: 2, Ids: []int{1, 2}}
	}
	spoil := func(log []api.Use) {
		for _, u := range log {
			for k := range u.Ids {
				u.Ids[k] = 77
			}
			for k := range u.Subs {
				u.Subs[k].Name = "spoilt"
				for i := range u.Subs[k].Term.Args {
					u.Subs[k].Term.Args[i].Name = "spoilt"
				}
			}
		}
	}
	rules := list(t, "(neg (neg ?a:8)) ?a:8", "(not (not ?a:8)) ?a:8 (equal ?a:8 ?a:8)")
	for _, b := range []api.Budget{ample(0), ample(1), ample(9)} {
		g := graph(t, "(not (not x:8))", "(neg (neg (not x:8)))")
		known := append(make([]api.Use, 0, 9), fresh(), fresh())
		log, rep, e := runner.Run(g, rules, known, b)
		if e != api.OK || len(log) < 2 || !sameLog(log[:2], known) {
			t.Fatal(log, rep, e)
		}
		if len(rep.Iters) > 0 && !sameLog(log[2:], []api.Use{{Rule: 0, Subs: []api.Sub{{Name: "a", Term: read(t, "(not x:8)")}}, A: 4, B: 1}, {Rule: 1, Subs: []api.Sub{{Name: "a", Term: read(t, "x:8")}}, A: 2, B: 0, Ids: []int{0, 0}}}) {
			t.Error(log)
		}
		for _, l := range g.Links() {
			if l.Why >= 0 && (log[l.Why].A != l.A || log[l.Why].B != l.B) {
				t.Error(l, log)
			}
		}
		for _, u := range known[:9][2:] {
			if !sameUse(u, api.Use{}) {
				t.Error("the room behind the log was written to")
			}
		}
		spoil(log)
		if !sameLog(known, []api.Use{fresh(), fresh()}) {
			t.Error("shared memory:", known)
		}
	}
	// The log that Step returns is as new, whether there was an iteration or a conflict.
	for _, facts := range []bool{false, true} {
		g := graph(t, "1:8", "2:8", "(not (not x:8))")
		join(t, g, "1:8", "2:8")
		g.Rebuild()
		b := ample(1)
		b.Facts = facts
		known, states := []api.Use{fresh()}, make([]api.Backoff, 2)
		log, after, _, stop := runner.Step(g, rules, known, states, 0, b)
		if (stop == api.StopConflict) != facts || len(log) == 0 || !sameLog(log[:1], known) {
			t.Fatal(log, stop)
		}
		spoil(log)
		for k := range after {
			after[k].Until = 77
		}
		if !sameLog(known, []api.Use{fresh()}) || !slices.Equal(states, make([]api.Backoff, 2)) {
			t.Error("shared memory:", known, states)
		}
	}
}

// TestSums checks a run that stops saturated with known classes: those of all sums of a number of variables (P33.4).
func TestSums(t *testing.T) {
	rules := list(t, "(add ?a:8 ?b:8) (add ?b:8 ?a:8)", "(add (add ?a:8 ?b:8) ?c:8) (add ?a:8 (add ?b:8 ?c:8))")
	for n := 2; n <= 6; n++ {
		names := strings.Split("a b c d e f", " ")[:n]
		s := names[0] + ":8"
		for _, name := range names[1:] {
			s = "(add " + s + " " + name + ":8)"
		}
		g := graph(t, s)
		_, rep, e := runner.Run(g, rules, nil, ample(50))
		if e != api.OK || rep.Stop != api.StopSaturated || g.Count() != 1<<n-1 {
			t.Fatal(n, rep.Stop, len(rep.Iters), g.Count(), e)
		}
		// A sum of k variables is that of two sums in 2^k - 2 ways.
		forms, want := 0, 0
		for _, id := range g.Classes() {
			forms += len(g.Nodes(id))
		}
		for set := 1; set < 1<<n; set++ {
			ways := -2
			for k, size := 0, 1; k < n; k++ {
				if set>>k&1 == 1 {
					size *= 2
					ways = size - 2
				}
			}
			want += max(ways, 1)
		}
		if forms != want {
			t.Error(n, forms, want)
		}
	}
}
