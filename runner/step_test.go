package runner_test

import (
	"math"
	"slices"
	"testing"

	"saturate/api"
	"saturate/egraph"
	"saturate/runner"
	"saturate/scheduler"
)

// TestStepNothing checks for which arguments Step returns zero values (P33.2).
func TestStepNothing(t *testing.T) {
	rules := list(t, "(not (not ?a:8)) ?a:8", "(neg (neg ?a:8)) ?a:8")
	log := []api.Use{{Rule: 1}}
	check := func(g *egraph.Graph, rules []api.Rule, states int) {
		t.Helper()
		log, after, it, stop := runner.Step(g, rules, log, make([]api.Backoff, states), 0, ample(1))
		if len(log) != 0 || len(after) != 0 || !sameIteration(it, api.Iteration{}) || stop != api.StopConflict {
			t.Error(log, after, it, stop)
		}
	}
	for _, g := range unusable(t) {
		check(g, rules, 2)
		check(g, rules, 1)
		check(g, nil, 0)
	}
	for _, states := range []int{0, 1, 3} {
		g := graph(t, "(not (not x:8))")
		check(g, rules, states)
		if g.Len() != 3 || len(g.Links()) != 0 {
			t.Error("the e-graph was changed")
		}
	}
	check(graph(t, "(not (not x:8))"), nil, 1)
}

// TestStep checks an iteration of several rules: all are searched before the first one is applied (P33.2).
func TestStep(t *testing.T) {
	rules := list(t, "(not ?a:8) (sub (neg ?a:8) 1:8)", "(neg ?a:8) (sub 0:8 ?a:8)", "(not ?a:8) (xor ?a:8 255:8)", "(sub ?a:8 ?b:8) (add ?a:8 (neg ?b:8))", "(not ?a:8) (sub (neg ?a:8) 1:8)")
	g := graph(t, "(not x:8)", "(not y:8)")
	// the ids: x 0, not x 1, y 2, not y 3
	log, states, it, stop := runner.Step(g, rules, nil, scheduler.New(5, 10, 1), 0, ample(1))
	want := api.Iteration{Found: []int{2, 0, 2, 0, 2}, Applied: []int{2, 0, 2, 0, 0}, Unions: 4, Nodes: 12, Classes: 8}
	if stop != 0 || !sameIteration(it, want) || !slices.Equal(states, scheduler.New(5, 10, 1)) {
		t.Error(it, stop, states)
	}
	// and further: neg x 4, 1 5, sub 6, neg y 7, sub 8, 255 9, xor 10, xor 11
	x, y := []api.Sub{{Name: "a", Term: read(t, "x:8")}}, []api.Sub{{Name: "a", Term: read(t, "y:8")}}
	uses := []api.Use{{Rule: 0, Subs: x, A: 1, B: 6}, {Rule: 0, Subs: y, A: 3, B: 8}, {Rule: 2, Subs: x, A: 1, B: 10}, {Rule: 2, Subs: y, A: 3, B: 11}}
	links := []api.Link{{A: 1, B: 6, Why: 0}, {A: 3, B: 8, Why: 1}, {A: 1, B: 10, Why: 2}, {A: 3, B: 11, Why: 3}}
	if !sameLog(log, uses) || !slices.Equal(g.Links(), links) || g.Dirty() {
		t.Error(log, g.Links())
	}
	log, _, it, stop = runner.Step(g, rules, log, states, 1, ample(1))
	want = api.Iteration{Found: []int{2, 2, 2, 2, 2}, Applied: []int{0, 2, 0, 2, 0}, Unions: 4}
	want.Nodes, want.Classes = g.Len(), g.Count()
	if stop != 0 || !sameIteration(it, want) || len(log) != 8 || !sameLog(log[:4], uses) || log[4].Rule != 1 || log[7].Rule != 3 {
		t.Error(it, stop, log)
	}
}

// TestStepRebuilds checks that an iteration ends with a rebuilt e-graph, and that its numbers are those after that (P33.2).
func TestStepRebuilds(t *testing.T) {
	g := graph(t, "(neg (not (not x:8)))", "(neg x:8)")
	_, _, it, stop := runner.Step(g, list(t, "(not (not ?a:8)) ?a:8"), nil, scheduler.New(1, 10, 1), 0, ample(1))
	if stop != 0 || g.Dirty() || !sameIteration(it, api.Iteration{Found: []int{1}, Applied: []int{1}, Unions: 1, Nodes: 5, Classes: 3}) || !g.Same(3, 4) {
		t.Error(it, stop)
	}
}

// TestStepNodes checks the bound of nodes (P33.2).
func TestStepNodes(t *testing.T) {
	rules := list(t, "(neg ?a:8) (sub 0:8 ?a:8)", "(not ?a:8) (xor ?a:8 255:8)", "(and ?a:8 ?b:8) (and ?b:8 ?a:8)", "(not (not ?a:8)) ?a:8")
	// There are 5 nodes. The first match of not makes 2 nodes, and each other match 1.
	for _, c := range []struct {
		nodes, stop, len int
		applied          []int
	}{
		{math.MinInt, api.StopNodes, 5, []int{0, 0, 0, 0}}, {0, api.StopNodes, 5, []int{0, 0, 0, 0}}, {1, api.StopNodes, 5, []int{0, 0, 0, 0}}, {5, api.StopNodes, 5, []int{0, 0, 0, 0}},
		{6, api.StopNodes, 7, []int{0, 1, 0, 0}}, {7, api.StopNodes, 7, []int{0, 1, 0, 0}},
		// All matches of not are processed, but none of and.
		{8, api.StopNodes, 8, []int{0, 2, 0, 0}}, {9, 0, 9, []int{0, 2, 1, 0}}, {10, 0, 9, []int{0, 2, 1, 0}}, {math.MaxInt, 0, 9, []int{0, 2, 1, 0}},
	} {
		g := graph(t, "(and x:8 (not x:8))", "(not y:8)")
		b := ample(1)
		b.Nodes = c.nodes
		log, states, it, stop := runner.Step(g, rules, nil, scheduler.New(4, 9, 1), 0, b)
		unions := c.applied[1] + c.applied[2]
		want := api.Iteration{Found: []int{0, 2, 1, 0}, Applied: c.applied, Unions: unions, Nodes: c.len, Classes: c.len - unions}
		if stop != c.stop || !sameIteration(it, want) || len(log) != unions || !slices.Equal(states, scheduler.New(4, 9, 1)) || g.Len() != c.len || g.Dirty() {
			t.Error(c, it, stop, log)
		}
		// A run stops at once, too.
		_, rep, e := runner.Run(graph(t, "(and x:8 (not x:8))", "(not y:8)"), rules, nil, api.Budget{Iters: 1, Nodes: c.nodes, Matches: 9, Limit: 9})
		if c.stop == 0 {
			c.stop = api.StopIters
		}
		if e != api.OK || !sameReport(rep, api.Report{Stop: c.stop, Iters: []api.Iteration{want}}) {
			t.Error(c, rep, e)
		}
	}
}

// TestStepBans checks rules that find too many matches, and those that are banned (P33.2).
func TestStepBans(t *testing.T) {
	rules := list(t, "(not ?a:8) (xor ?a:8 255:8)", "(neg ?a:8) (sub 0:8 ?a:8)", "(and ?a:8 ?b:8) (and ?b:8 ?a:8)")
	build := func() *egraph.Graph { return graph(t, "(and (not x:8) (not y:8))", "(neg (not z:8))") }
	// There are 3 matches of not, and one of each other operator.
	for _, c := range []struct {
		limit, matches, iter int
		found, applied       []int
		banned               int
		until                int
	}{
		{2, 100, 0, []int{3, 1, 1}, []int{0, 1, 1}, 1, 5}, {3, 100, 0, []int{3, 1, 1}, []int{3, 1, 1}, 0, 0}, {2, 100, 7, []int{3, 1, 1}, []int{0, 1, 1}, 1, 12},
		// Only as many matches are found as Matches allows.
		{2, 2, 0, []int{2, 1, 1}, []int{2, 1, 1}, 0, 0}, {1, 2, 0, []int{2, 1, 1}, []int{0, 1, 1}, 1, 5}, {1, 0, 0, []int{1, 1, 1}, []int{1, 1, 1}, 0, 0}, {65536, 3, 3, []int{3, 1, 1}, []int{3, 1, 1}, 0, 0},
	} {
		b := ample(1)
		b.Matches, b.Limit, b.Ban = c.matches, 77, 99 // only the states count
		states := scheduler.New(3, c.limit, 4)
		log, after, it, stop := runner.Step(build(), rules, nil, states, c.iter, b)
		want := slices.Clone(states)
		if c.banned == 1 {
			want[0].Times, want[0].Until = 1, c.until
		}
		if stop != 0 || !slices.Equal(it.Found, c.found) || !slices.Equal(it.Applied, c.applied) || it.Banned != c.banned || !slices.Equal(after, want) || len(log) != it.Unions || it.Unions != c.applied[0]+2 {
			t.Error(c, it, stop, after)
		}
	}
	// A rule that is banned is not searched, and keeps its state, which is not clamped. The others are, whatever they find.
	odd := []api.Backoff{{Limit: -1, Ban: 1 << 50, Times: 99, Until: 9}, {Limit: -5, Ban: 0, Times: -7, Until: -9}, {Limit: 1 << 40, Times: 31}}
	_, after, it, stop := runner.Step(build(), rules, nil, odd, 8, ample(1))
	want := []api.Backoff{odd[0], {Limit: 1, Ban: 1}, {Limit: 65536, Ban: 1, Times: 30}}
	if stop != 0 || !slices.Equal(it.Found, []int{-1, 1, 1}) || !slices.Equal(it.Applied, []int{0, 1, 1}) || it.Banned != 1 || !slices.Equal(after, want) {
		t.Error(it, stop, after)
	}
	// At its Until it is searched again.
	_, after, it, _ = runner.Step(build(), rules, nil, odd, 9, ample(1))
	if !slices.Equal(it.Found, []int{3, 1, 1}) || it.Banned != 0 || after[0] != (api.Backoff{Limit: 1, Ban: 65536, Times: 30, Until: 9}) {
		t.Error(it, after)
	}
}

// TestStepSaturated checks that nothing may be left to do or to search (P33.2).
func TestStepSaturated(t *testing.T) {
	rules := list(t, "(add ?a:8 0:8) ?a:8", "(not ?a:8) (not ?a:8)")
	for _, c := range []struct {
		states []api.Backoff
		facts  bool
		stop   int
	}{
		{scheduler.New(2, 9, 1), false, api.StopSaturated}, {scheduler.New(2, 9, 1), true, api.StopSaturated},
		// a rule that is banned, and one that finds too many matches
		{[]api.Backoff{{Limit: 9, Until: 1}, {Limit: 9}}, false, 0}, {[]api.Backoff{{Limit: 9}, {Limit: 1}}, false, 0},
	} {
		b := ample(1)
		b.Facts = c.facts
		_, _, it, stop := runner.Step(graph(t, "(not (not x:8))"), rules, nil, c.states, 0, b)
		if stop != c.stop || it.Unions != 0 {
			t.Error(c, it, stop)
		}
	}
	// The bound of nodes is another reason, even if there is no union.
	b := ample(1)
	b.Nodes = 3
	_, _, it, stop := runner.Step(graph(t, "(not (not x:8))"), rules, nil, scheduler.New(2, 9, 1), 0, b)
	if stop != api.StopNodes || it.Unions != 0 || !slices.Equal(it.Found, []int{0, 2}) {
		t.Error(it, stop)
	}
	// Constants that facts determine are no unions of rules.
	b = ample(1)
	b.Facts = true
	g := graph(t, "(and x:8 0:8)")
	_, _, it, stop = runner.Step(g, rules, nil, scheduler.New(2, 9, 1), 0, b)
	if stop != api.StopSaturated || !sameIteration(it, api.Iteration{Found: []int{0, 0}, Applied: []int{0, 0}, Nodes: 3, Classes: 2}) || len(g.Links()) != 1 {
		t.Error(it, stop)
	}
}

// TestStepFacts checks that facts are used exactly if they are asked for (P33.2).
func TestStepFacts(t *testing.T) {
	rules := list(t, "(urem ?a:8 16:8) ?a:8 (below ?a:8 16:8)", "(add ?a:8 0:8) ?a:8", "(mul ?a:8 #c:8) ?a:8 (if (eq #c:8 1:8))")
	for _, facts := range []bool{false, true} {
		b := ample(1)
		b.Facts = facts
		// What is added to and multiplied with is 0 and 1, as the facts say, and the rest is below 16.
		g := graph(t, "(add x:8 (and y:8 0:8))", "(urem (and x:8 15:8) 16:8)", "(mul x:8 (zext 8 (eq (and y:8 0:8) 0:8)))")
		log, _, it, stop := runner.Step(g, rules, nil, scheduler.New(3, 9, 1), 0, b)
		found, n, reason := []int{0, 0, 0}, 0, api.StopSaturated
		if facts {
			found, n, reason = []int{1, 1, 1}, 3, 0
		}
		if !slices.Equal(it.Found, found) || !slices.Equal(it.Applied, found) || len(log) != n || it.Unions != n || stop != reason {
			t.Error(facts, it, stop)
		}
	}
}

// TestStepConflict checks what happens if facts contradict each other (P33.2).
func TestStepConflict(t *testing.T) {
	rules := list(t, "(add ?a:8 0:8) ?a:8")
	for _, l := range [][]string{{"1:8", "2:8"}, {"(or x:8 1:8)", "(and x:8 2:8)"}} {
		build := func() *egraph.Graph {
			g := graph(t, append(l, "(add x:8 0:8)")...)
			join(t, g, l[0], l[1])
			g.Rebuild()
			return g
		}
		log := []api.Use{{Rule: 7, Ids: []int{1}}}
		states := []api.Backoff{{Limit: -3, Until: 50, Times: 77}}
		b := ample(1)
		b.Facts = true
		g := build()
		links := g.Links()
		got, after, it, stop := runner.Step(g, rules, log, states, 0, b)
		if !sameLog(got, log) || !slices.Equal(after, states) || !sameIteration(it, api.Iteration{}) || stop != api.StopConflict || !slices.Equal(g.Links(), links) {
			t.Error(got, after, it, stop)
		}
		// The report contains this iteration too.
		got, rep, e := runner.Run(build(), rules, log, b)
		if e != api.OK || !sameReport(rep, api.Report{Stop: api.StopConflict, Iters: []api.Iteration{{}}}) || !sameLog(got, log) {
			t.Error(got, rep, e)
		}
		// Without facts nobody notices.
		b.Facts = false
		if _, rep, e := runner.Run(build(), rules, log, b); e != api.OK || rep.Stop != api.StopIters || rep.Iters[0].Unions != 1 {
			t.Error(rep, e)
		}
	}
	// A rule that is not sound leads to a conflict in the next iteration.
	g := graph(t, "(not 1:8)")
	b := ample(5)
	b.Facts = true
	log, rep, e := runner.Run(g, list(t, "(not ?a:8) ?a:8"), nil, b)
	if e != api.OK || rep.Stop != api.StopConflict || len(rep.Iters) != 2 || rep.Iters[0].Unions != 1 || !sameIteration(rep.Iters[1], api.Iteration{}) || len(log) != 1 {
		t.Error(log, rep, e)
	}
}

// crowd returns an e-graph of n nodes: terms, and consts of width 32 from 0 on.
func crowd(t *testing.T, n int, l ...string) *egraph.Graph {
	t.Helper()
	g := graph(t, l...)
	for val := uint64(0); g.Len() < n; val++ {
		if _, e := g.Add(api.Node{Op: api.OpConst, Width: 32, Val: val}); e != api.OK {
			t.Fatal(e)
		}
	}
	return g
}

// TestStepFull checks that facts are not used if there is no room for the constants that they determine (P33.2).
func TestStepFull(t *testing.T) {
	rules := list(t, "(not ?a:32) ?a:32 (below ?a:32 1:32)", "(not ?a:32) ?a:32")
	for i, c := range []struct {
		g     *egraph.Graph
		found []int
		stop  int
		len   int
	}{
		// The value of not needs one node more.
		{crowd(t, api.MaxNodes-1, "(not 0:32)"), []int{1, 1}, api.StopNodes, api.MaxNodes},
		{crowd(t, api.MaxNodes, "(not 0:32)"), []int{0, 1}, api.StopNodes, api.MaxNodes},
		// What has the value 1 has been joined with it before that, and so the e-graph is dirty and no rule is searched.
		{crowd(t, api.MaxNodes, "(and 3:32 1:32)", "(not 0:32)"), []int{0, 0}, api.StopSaturated, api.MaxNodes},
	} {
		b := api.Budget{Nodes: math.MaxInt, Matches: 100, Limit: 100, Facts: true}
		_, _, it, stop := runner.Step(c.g, rules, nil, scheduler.New(2, 9, 1), 0, b)
		if !slices.Equal(it.Found, c.found) || stop != c.stop || it.Nodes != c.len || c.g.Dirty() || it.Classes != c.g.Count() {
			t.Errorf("case %d: %v, %d", i, it, stop)
		}
	}
}

// TestStepInvalid checks that rules which are not valid or generic do no harm: they have no matches, or their matches are skipped (P33.2).
func TestStepInvalid(t *testing.T) {
	rules := list(t, "(not ?a:8) (xor ?a:8 255:8)", "(not ?a:0) ?a:0", "(not ?a:8) ?a:8", "(not ?a:8) ?a:8", "(not ?a:8) ?a:8")
	rules[2].Left = nil
	rules[3].Right = read(t, "(not ?b:8)")
	rules[4].Right.Width = 4
	g := graph(t, "(not x:8)")
	log, _, it, stop := runner.Step(g, rules, nil, make([]api.Backoff, 5), 0, ample(1))
	if stop != 0 || !sameIteration(it, api.Iteration{Found: []int{1, 0, 0, 1, 1}, Applied: []int{1, 0, 0, 0, 0}, Unions: 1, Nodes: 4, Classes: 3}) || len(log) != 1 {
		t.Error(it, stop)
	}
	for _, iter := range []int{math.MinInt, -1, math.MaxInt} {
		g := graph(t, "(not x:8)")
		if _, _, it, stop := runner.Step(g, rules[:1], nil, make([]api.Backoff, 1), iter, api.Budget{Nodes: 10}); stop != 0 || it.Unions != 1 {
			t.Error(iter, it, stop)
		}
	}
}
