package apply_test

import (
	"math"
	"slices"
	"testing"

	"saturate/api"
	"saturate/apply"
	"saturate/egraph"
	"saturate/term"
)

// sameUse reports whether two uses are equal in all parts.
func sameUse(a, b api.Use) bool {
	return a.Rule == b.Rule && a.A == b.A && a.B == b.B && slices.Equal(a.Ids, b.Ids) && slices.EqualFunc(a.Subs, b.Subs, func(a, b api.Sub) bool { return a.Name == b.Name && term.Same(a.Term, b.Term) })
}

// negations returns an e-graph with three negations, and matches of them: the second one is done after the first one, and the next two have errors.
func negations(t *testing.T) (*egraph.Graph, []api.Match) {
	g := graph(t, "(not x:8)", "(not y:8)", "(not z:8)")
	// the ids: x 0, not 1, y 2, not 3, z 4, not 5
	return g, []api.Match{match(t, "a=0"), match(t, "a=0"), match(t, "b=2"), match(t, "a=2000"), match(t, "a=2"), match(t, "a=4")}
}

// TestAll checks P31.3.
func TestAll(t *testing.T) {
	rules := []api.Rule{one(t, "?a:8 ?a:8"), one(t, "(not ?a:8) (sub (neg ?a:8) 1:8)")}
	known := []api.Use{{Rule: 7, A: 1, B: 2, Ids: []int{3, 4}}, {Rule: -1, Subs: []api.Sub{{Name: "a", Term: read(t, "(not x:8)")}}}}
	// The first match adds 3 nodes, the last but one and the last one 2 each.
	for _, c := range []struct {
		nodes, added int
		all          bool
	}{
		{math.MinInt, 0, false}, {-1, 0, false}, {0, 0, false}, {5, 0, false}, {6, 0, false}, {7, 1, false}, {8, 1, false}, {9, 1, false}, {10, 2, false}, {11, 2, false}, {12, 3, true}, {13, 3, true}, {14, 3, true}, {api.MaxNodes, 3, true}, {math.MaxInt, 3, true},
	} {
		g, l := negations(t)
		log, n, all := apply.All(g, rules, 1, l, known, c.nodes)
		if n != c.added || all != c.all || len(log) != 2+n || g.Len() != []int{6, 9, 11, 13}[n] {
			t.Fatalf("%d nodes: %d, %v, %v", c.nodes, n, all, log)
		}
		want := []api.Use{known[0], known[1], {Rule: 1, Subs: []api.Sub{{Name: "a", Term: read(t, "x:8")}}, A: 1, B: 8}, {Rule: 1, Subs: []api.Sub{{Name: "a", Term: read(t, "y:8")}}, A: 3, B: 10}, {Rule: 1, Subs: []api.Sub{{Name: "a", Term: read(t, "z:8")}}, A: 5, B: 12}}
		if !slices.EqualFunc(log, want[:2+n], sameUse) {
			t.Errorf("%d nodes: %v", c.nodes, log)
		}
		links := []api.Link{{A: 1, B: 8, Why: 2}, {A: 3, B: 10, Why: 3}, {A: 5, B: 12, Why: 4}}
		if !slices.Equal(g.Links(), links[:n]) {
			t.Errorf("%d nodes: %v", c.nodes, g.Links())
		}
	}
}

// TestAllNothing checks P31.3 where nothing is applied.
func TestAllNothing(t *testing.T) {
	rules := []api.Rule{one(t, "?a:8 ?a:8"), one(t, "(not ?a:8) (sub (neg ?a:8) 1:8)")}
	known := []api.Use{{Rule: 3, Ids: []int{1}}}
	for _, at := range []int{-1, 2, math.MaxInt, math.MinInt, 0} {
		// All matches are skipped because there is no such rule, or make nothing equal.
		g, l := negations(t)
		if log, n, all := apply.All(g, rules, at, l, known, 100); n != 0 || !all || !slices.EqualFunc(log, known, sameUse) || g.Len() != 6 || g.Dirty() {
			t.Error(at, log, n, all)
		}
		if log, n, all := apply.All(g, rules, at, l, known, 6); n != 0 || all || !slices.EqualFunc(log, known, sameUse) {
			t.Error(at, log, n, all)
		}
		// Without matches all of them are processed.
		for _, nodes := range []int{-1, 0, 6, 100} {
			if log, n, all := apply.All(g, rules, at, nil, known, nodes); n != 0 || !all || !slices.EqualFunc(log, known, sameUse) {
				t.Error(at, nodes, log, n, all)
			}
		}
	}
	for i, g := range unusable(t) {
		for _, l := range [][]api.Match{nil, {match(t, "a=0")}} {
			if log, n, all := apply.All(g, rules, 1, l, known, 100); n != 0 || all || len(log) != 0 {
				t.Error(i, log, n, all)
			}
		}
	}
}

// TestAllMemory checks that All does not change its arguments, and that its result shares no memory with them.
func TestAllMemory(t *testing.T) {
	g, l := negations(t)
	rules := []api.Rule{one(t, "(not ?a:8) (sub (neg ?a:8) 1:8)")}
	fresh := func() api.Use {
		return api.Use{Rule: 5, Subs: []api.Sub{{Name: "a", Term: read(t, "(not x:8)")}}, Ids: []int{1, 2}}
	}
	known := append(make([]api.Use, 0, 9), fresh(), fresh())
	log, n, _ := apply.All(g, rules, 0, l, known, 100)
	if n != 3 {
		t.Fatal(n)
	}
	if room := known[:9]; slices.ContainsFunc(room[2:], func(u api.Use) bool { return !isZero(u) }) {
		t.Error("the room behind the log was written to")
	}
	for _, u := range log {
		for k := range u.Ids {
			u.Ids[k] = 77
		}
		for k := range u.Subs {
			u.Subs[k].Name = "spoilt"
			for i := range u.Subs[k].Term.Args {
				u.Subs[k].Term.Args[i].Name = "spoilt"
			}
		}
	}
	if !sameUse(known[0], fresh()) || !sameUse(known[1], fresh()) {
		t.Error(known)
	}
}

// TestPremises checks P31.4.
func TestPremises(t *testing.T) {
	for s, want := range map[string]int{
		"?a:8 ?a:8": 0, "(all (r (not ?a:8))) ?a:8 (if (eq 1:8 1:8)) (equal ?a:8 1:8)": 2, "(all (_ ?a:8) (r ?b:8) (_ ?a:8) (r ?b:8)) ?a:8": 2, "(all (a ?a:8) (r ?b:8) (_ ?a:8) (r ?b:8)) ?a:8 (below ?a:8 1:8) (zeros ?r:8 1:8) (equal 1:8 2:8) (equal 1:8 2:8) (if 1:1)": 7, "1:8 1:8 (if 1:1) (if 0:1)": 0, "?a:0 ?a:0 (below ?a:0 1:0)": 1,
	} {
		if n := apply.Premises(one(t, s)); n != want {
			t.Errorf("%s: %d, not %d", s, n, want)
		}
	}
	// The rule need not be valid.
	if n := apply.Premises(api.Rule{Left: []api.Atom{{Root: "?"}, {}}, Guards: []api.Guard{{}, {Kind: 5}, {Kind: -1}, {Kind: api.GuardPred}}}); n != 4 {
		t.Error(n)
	}
	if n := apply.Premises(api.Rule{}); n != 0 {
		t.Error(n)
	}
}

// TestValid checks P31.4: of all parts of a Use, which ones make it invalid.
func TestValid(t *testing.T) {
	g := graph(t, "(add x:8 y:8)", "(not z:8)")
	// the ids: x 0, y 1, add 2, z 3, not 4
	rules := []api.Rule{
		one(t, "(all (_ (add ?a:8 ?b:8)) (_ (mul ?u:8 ?u:8)) (r (not ?s:8)) (s ?s:8)) (sub ?b:8 ?a:8) (below ?a:8 9:8) (if (ult 1:8 0:8)) (equal (not ?a:8) ?r:8) (zeros ?b:8 1:8)"),
		{Name: "r", Left: []api.Atom{{Pattern: read(t, "(add ?a:8 ?b:8)")}}, Right: read(t, "?c:8")}, {Left: []api.Atom{{Pattern: read(t, "(add ?a:8 ?b:8)")}}, Right: read(t, "?a:8")}, one(t, "(add ?a:8 ?b:8) ?a:8"), one(t, "(add ?a:0 ?b:0) ?a:0"), one(t, "(add ?a:8 ?b:8) ?a:8 (if (eq 1:0 1:0))"),
	}
	if rules[0].Left[1].Root != "" {
		t.Fatal("the second atom has a Root")
	}
	made := func() api.Use {
		u, _, e := apply.One(g, rules, 0, match(t, "a=0 b=1 u=3 r=4 s=3"), 0)
		if e != api.OK {
			t.Fatal(e)
		}
		return u
	}
	// the ids that One adds: sub 6, not x 5
	if u := made(); u.A != 2 || u.B != 6 || !slices.Equal(u.Ids, []int{4, 4, 3, 3, 0, 5, 4, 1}) {
		t.Fatal(u)
	}
	sub := func(name, s string) api.Sub { return api.Sub{Name: name, Term: read(t, s)} }
	for i, c := range []struct {
		change func(u *api.Use)
		want   bool
	}{
		{func(u *api.Use) {}, true},
		{func(u *api.Use) { u.Rule = -1 }, false}, {func(u *api.Use) { u.Rule = len(rules) }, false}, {func(u *api.Use) { u.Rule = math.MaxInt }, false}, {func(u *api.Use) { u.Rule = math.MinInt }, false},
		{func(u *api.Use) { u.A = 0 }, false}, {func(u *api.Use) { u.A = 6 }, false}, {func(u *api.Use) { u.A = -1 }, false}, {func(u *api.Use) { u.A = 7 }, false}, {func(u *api.Use) { u.B = 2 }, false}, {func(u *api.Use) { u.B = -1 }, false}, {func(u *api.Use) { u.B = math.MaxInt }, false}, {func(u *api.Use) { u.A, u.B = u.B, u.A }, false},
		// the number of Ids
		{func(u *api.Use) { u.Ids = nil }, false}, {func(u *api.Use) { u.Ids = u.Ids[:7] }, false}, {func(u *api.Use) { u.Ids = u.Ids[1:] }, false}, {func(u *api.Use) { u.Ids = append(u.Ids, 1) }, false},
		// Those of holes may be any ids, those of instances not.
		{func(u *api.Use) { u.Ids[0] = 0 }, true}, {func(u *api.Use) { u.Ids[2] = 6 }, true}, {func(u *api.Use) { u.Ids[4] = 5 }, true}, {func(u *api.Use) { u.Ids[7] = 2 }, true}, {func(u *api.Use) { u.Ids[0] = -1 }, false}, {func(u *api.Use) { u.Ids[2] = 7 }, false}, {func(u *api.Use) { u.Ids[4] = math.MaxInt }, false}, {func(u *api.Use) { u.Ids[7] = math.MinInt }, false},
		{func(u *api.Use) { u.Ids[1] = 3 }, false}, {func(u *api.Use) { u.Ids[3] = 4 }, false}, {func(u *api.Use) { u.Ids[5] = 4 }, false}, {func(u *api.Use) { u.Ids[6] = 5 }, false}, {func(u *api.Use) { u.Ids[6] = -1 }, false}, {func(u *api.Use) { u.Ids[1] = 7 }, false},
		// the substitution
		{func(u *api.Use) { u.Subs = nil }, false}, {func(u *api.Use) { slices.Reverse(u.Subs) }, true}, {func(u *api.Use) { u.Subs = append(u.Subs, sub("a", "y:8"), sub("q", "1:4")) }, true}, {func(u *api.Use) { u.Subs = append([]api.Sub{sub("a", "y:8")}, u.Subs...) }, false}, {func(u *api.Use) { u.Subs = append([]api.Sub{sub("a", "x:4")}, u.Subs...) }, false}, {func(u *api.Use) { u.Subs = append([]api.Sub{sub("s", "x:8")}, u.Subs...) }, false}, {func(u *api.Use) { u.Subs = append([]api.Sub{sub("r", "x:8")}, u.Subs...) }, false},
		{func(u *api.Use) { u.Subs = u.Subs[1:] }, false}, {func(u *api.Use) { u.Subs = u.Subs[:3] }, false},
		// The instance of an atom without a Root does not count.
		{func(u *api.Use) { u.Subs = u.Subs[:4] }, true}, {func(u *api.Use) { u.Subs[4] = sub("u", "?x:0") }, true},
		// rules that are not valid, that are generic, and a simple one
		{func(u *api.Use) { *u = api.Use{Rule: 1, Subs: append(u.Subs, sub("c", "x:8")), A: 2, B: 0} }, false}, {func(u *api.Use) { u.Rule, u.B, u.Ids = 2, 0, nil }, false}, {func(u *api.Use) { u.Rule, u.B, u.Ids = 3, 0, nil }, true}, {func(u *api.Use) { u.Rule, u.B, u.Ids = 3, 1, nil }, false}, {func(u *api.Use) { u.Rule, u.B, u.Ids = 3, 0, []int{0} }, false}, {func(u *api.Use) { u.Rule, u.B, u.Ids = 4, 0, nil }, false}, {func(u *api.Use) { u.Rule, u.B, u.Ids = 5, 0, nil }, false},
		{func(u *api.Use) { *u = api.Use{} }, false},
	} {
		u := made()
		c.change(&u)
		if got := apply.Valid(g, rules, u); got != c.want {
			t.Errorf("case %d: %v for %v", i, got, u)
		}
		for _, g := range unusable(t) {
			if apply.Valid(g, rules, u) {
				t.Errorf("case %d: valid in an e-graph that cannot be used", i)
			}
		}
		if apply.Valid(g, nil, u) {
			t.Errorf("case %d: valid without rules", i)
		}
	}
}

// TestValidUndo checks that original terms and the Rule decide, and not what else was done (P31.4, P31.5).
func TestValidUndo(t *testing.T) {
	g := graph(t, "(add x:8 y:8)")
	rules := []api.Rule{one(t, "(all (r (add ?a:8 ?b:8))) (add ?b:8 ?a:8) (below ?a:8 1:8)")}
	mark := g.Mark()
	u, ok, e := apply.One(g, rules, 0, match(t, "a=0 b=1 r=2"), 0)
	if !ok || e != api.OK {
		t.Fatal(u, ok, e)
	}
	join(t, g, "x:8", "y:8")
	for range 2 {
		if !apply.Valid(g, rules, u) {
			t.Error("not valid any more")
		}
		g.Rebuild()
	}
	if !g.Undo(mark) || apply.Valid(g, rules, u) {
		t.Error("B is an id still")
	}
	if _, e := g.Add(api.Node{Op: api.OpAdd, Width: 8, Args: []int{1, 0}}); e != api.OK || !apply.Valid(g, rules, u) {
		t.Error("B is no id again")
	}
	// The original term of an id that is too large is no instance.
	large := tower(t, api.OpAdd, 2, 12)
	if x := (api.Use{A: 12, Ids: []int{0, 12, 0}, Subs: u.Subs}); apply.Valid(large, rules, x) {
		t.Error(x)
	}
}
