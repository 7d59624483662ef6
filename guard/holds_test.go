package guard_test

import (
	"math"
	"testing"

	"saturate/analysis"
	"saturate/api"
	"saturate/egraph"
	"saturate/facts"
	"saturate/guard"
	"saturate/represent"
)

// bind returns the entries that give values to nums.
func bind(l ...api.Bind) []api.Bind {
	return l
}

// TestValue checks P27.3.
func TestValue(t *testing.T) {
	values := bind(api.Bind{Name: "k", Val: 16}, api.Bind{Name: "big", Val: 0x1ff}, api.Bind{Name: "all", Val: math.MaxUint64}, api.Bind{Name: "k", Val: 99}, api.Bind{Name: "", Val: 3}, api.Bind{Name: "X!", Val: 4})
	for _, x := range []struct {
		p    string
		want uint64
		ok   bool
	}{
		{"(add #k:8 #k:8)", 32, true}, {"#k:8", 16, true}, {"#k:5", 16, true}, {"#k:4", 0, true}, {"#big:8", 255, true}, {"#big:64", 511, true}, {"#all:64", math.MaxUint64, true}, {"#all:1", 1, true}, {"(add #all:64 1:64)", 0, true},
		{"7:8", 7, true}, {"(ult #k:8 17:8)", 1, true}, {"(ite (eq #k:8 16:8) 3:2 1:2)", 3, true}, {"(concat #k:5 1:3)", 129, true}, {"(extract 4 2 #k:8)", 1, true}, {"(sext 8 #k:5)", 240, true}, {"(zext 64 #all:63)", math.MaxInt64, true}, {"(udiv 200:8 (sub #k:8 16:8))", 255, true}, {"(eq (and #k:8 (sub #k:8 1:8)) 0:8)", 1, true},
		{"?k:8", 0, false}, {"k:8", 0, false}, {"(eval #k:8)", 0, false}, {"(add #k:8 ?k:8)", 0, false}, {"(add k:8 #k:8)", 0, false}, {"(not (eval 1:8))", 0, false}, {"#z:8", 0, false}, {"(add #k:8 #z:8)", 0, false}, {"(and 0:8 #z:8)", 0, false}, {"#k:0", 0, false}, {"3:0", 0, false}, {"(add #k:0 #k:0)", 0, false}, {"(not 3:0)", 0, false},
	} {
		if val, ok := guard.Value(read(t, x.p), values); val != x.want || ok != x.ok {
			t.Errorf("%s: %d, %v", x.p, val, ok)
		}
	}
}

// TestValueForms checks P27.3 for patterns that are not valid.
func TestValueForms(t *testing.T) {
	values := bind(api.Bind{Name: "k", Val: 16}, api.Bind{Name: "", Val: 3}, api.Bind{Name: "X!", Val: 4})
	num := func(name string, width int) api.Term { return api.Term{Op: api.OpNum, Width: width, Name: name} }
	five := read(t, "5:8")
	for i, x := range []struct {
		p    api.Term
		want uint64
		ok   bool
	}{
		{num("", 8), 3, true}, {num("X!", 8), 4, true}, {num("k", 65), 0, false}, {num("k", -1), 0, false}, {num("k", math.MaxInt), 0, false}, {num("k", 64), 16, true},
		{api.Term{Op: api.OpNum, Width: 8, Name: "k", Val: 9, Args: []api.Term{read(t, "?z:8"), read(t, "x:8")}}, 16, true}, // operands of nums are ignored
		{api.Term{Op: api.OpConst, Width: 8, Val: 5, Name: "name"}, 5, true}, {api.Term{Op: api.OpConst, Width: 8, Val: 256}, 0, false}, {api.Term{Op: api.OpConst, Width: 8, Val: 5, Args: []api.Term{five}}, 0, false}, {api.Term{Op: api.OpConst, Width: 65, Val: 5}, 0, false}, {api.Term{Op: api.OpConst, Width: -1}, 0, false},
		{api.Term{Op: api.OpNot, Width: 1, Val: 7, Name: "x", Args: []api.Term{five}}, 250, true}, // only the widths of operands count
		{api.Term{Op: api.OpNeg, Args: []api.Term{{Op: api.OpNot, Width: 4, Args: []api.Term{five}}}}, 6, true},
		{api.Term{Op: api.OpNeg, Args: []api.Term{{Op: api.OpNot, Width: 64, Args: []api.Term{five}}}}, math.MaxUint64 - 249, true},
		{api.Term{Op: api.OpNeg, Args: []api.Term{{Op: api.OpNot, Width: 0, Args: []api.Term{five}}}}, 0, false},
		{api.Term{Op: api.OpNeg, Args: []api.Term{{Op: api.OpNot, Width: 65, Args: []api.Term{five}}}}, 0, false},
		{api.Term{Op: api.OpNot, Width: 8}, 0, false}, {api.Term{Op: api.OpNot, Width: 8, Args: []api.Term{five, five}}, 0, false}, {api.Term{Op: api.OpZext, Width: 4, Args: []api.Term{five}}, 0, false}, {api.Term{Op: api.OpExtract, Width: 8, Val: 1, Args: []api.Term{five}}, 0, false}, {api.Term{Op: api.OpIte, Width: 8, Args: []api.Term{five, five, five}}, 0, false}, {api.Term{Op: api.OpUlt, Width: 1, Args: []api.Term{num("k", 4), five}}, 0, false},
		{api.Term{}, 0, false}, {api.Term{Op: 27}, 0, false}, {api.Term{Op: -1, Args: []api.Term{five}}, 0, false}, {api.Term{Op: api.OpEval, Width: 8, Args: []api.Term{five}}, 0, false}, {api.Term{Op: api.OpHole, Width: 8, Name: "k"}, 0, false}, {api.Term{Op: api.OpVar, Width: 8, Name: "k"}, 0, false},
	} {
		if val, ok := guard.Value(x.p, values); val != x.want || ok != x.ok {
			t.Errorf("case %d: %d, %v", i, val, ok)
		}
	}
}

// sample returns an e-graph with x 0, 15:8 1, (and x 15) 2, y:4 3, 15:4 4, (zext 8 y) 5, f:1 6 and (ite f x (zext 8 y)) 7.
func sample(t *testing.T) *egraph.Graph {
	t.Helper()
	g := egraph.New()
	for _, s := range []string{"(and x:8 15:8)", "y:4", "15:4", "(zext 8 y:4)", "(ite f:1 x:8 (zext 8 y:4))"} {
		if _, e := represent.AddTerm(g, read(t, s)); e != api.OK {
			t.Fatal(s, e)
		}
	}
	if g.Len() != 8 {
		t.Fatal(g.Dump())
	}
	return g
}

// TestClass checks P27.4.
func TestClass(t *testing.T) {
	g := sample(t)
	m := api.Match{
		Holes: []api.Pair{{Name: "a", Id: 0}, {Name: "y", Id: 3}, {Name: "z", Id: 5}, {Name: "a", Id: 1}, {Name: "bad", Id: 99}, {Name: "neg", Id: -1}, {Name: "bad", Id: 0}, {Name: "far", Id: math.MinInt}},
		Nums:  bind(api.Bind{Name: "k", Val: 15}, api.Bind{Name: "k", Val: 3}, api.Bind{Name: "a", Val: 15}, api.Bind{Name: "big", Val: 271}, api.Bind{Name: "w", Val: 3}),
	}
	for _, x := range []struct {
		p    string
		want int
		ok   bool
	}{
		{"?a:8", 0, true}, {"?y:4", 3, true}, {"#k:8", 1, true}, {"#k:4", 4, true}, {"#a:8", 1, true}, {"15:8", 1, true}, {"x:8", 0, true}, {"(and ?a:8 #k:8)", 2, true}, {"(and x:8 #a:8)", 2, true}, {"(zext 8 ?y:4)", 5, true}, {"(ite f:1 ?a:8 ?z:8)", 7, true}, {"(ite f:1 ?a:8 (zext 8 ?y:4))", 7, true},
		{"?a:4", 0, false}, {"?a:0", 0, false}, {"?y:8", 0, false}, {"?x:8", 0, false}, {"?k:8", 0, false}, {"?bad:8", 0, false}, {"?neg:8", 0, false}, {"?far:8", 0, false}, {"#z:8", 0, false}, {"#y:4", 0, false}, {"#w:8", 0, false}, {"#k:5", 0, false}, {"#k:0", 0, false}, {"#big:8", 0, false},
		{"(and #k:8 ?a:8)", 0, false}, {"(and ?a:8 ?bad:8)", 0, false}, {"(and ?bad:8 #k:8)", 0, false}, {"(and ?none:8 15:8)", 0, false}, {"(and y:8 #k:8)", 0, false}, {"(or ?a:8 #k:8)", 0, false}, {"y:8", 0, false}, {"a:8", 0, false}, {"14:8", 0, false}, {"(zext 9 ?y:4)", 0, false}, {"(eval #k:8)", 0, false}, {"(not 15:8)", 0, false}, {"(not 14:8)", 0, false},
	} {
		if id, ok := guard.Class(g, read(t, x.p), m); id != x.want || ok != x.ok {
			t.Errorf("%s: %d, %v", x.p, id, ok)
		}
	}
	// A num without an entry stands for no const, not even for 0.
	if _, e := g.Add(api.Node{Op: api.OpConst, Width: 8}); e != api.OK {
		t.Fatal(e)
	}
	if id, ok := guard.Class(g, read(t, "#none:8"), m); id != 0 || ok {
		t.Error(id, ok)
	}
	for i, p := range []api.Term{{}, {Op: 99}, {Op: api.OpHole, Width: -1, Name: "bad"}, {Op: api.OpHole, Width: -1, Name: "neg"}, {Op: api.OpAnd, Width: 8, Args: []api.Term{read(t, "?a:8")}}, {Op: api.OpAnd, Width: 4, Args: []api.Term{read(t, "?a:8"), read(t, "#k:8")}}} {
		if id, ok := guard.Class(g, p, m); id != 0 || ok {
			t.Errorf("case %d: %d, %v", i, id, ok)
		}
	}
	// Operands of holes and nums are ignored.
	args := []api.Term{read(t, "?none:8")}
	if id, ok := guard.Class(g, api.Term{Op: api.OpHole, Width: 4, Name: "y", Val: 5, Args: args}, m); id != 3 || !ok {
		t.Error(id, ok)
	}
	if id, ok := guard.Class(g, api.Term{Op: api.OpNum, Width: 4, Name: "k", Val: 5, Args: args}, m); id != 4 || !ok {
		t.Error(id, ok)
	}
	for i, g := range unusable(t) {
		for _, p := range []string{"?a:8", "#k:8", "x:8", "15:8"} {
			if id, ok := guard.Class(g, read(t, p), m); id != 0 || ok {
				t.Errorf("e-graph %d, %s: %d, %v", i, p, id, ok)
			}
		}
		// An id that does not exist has the width -1.
		if id, ok := guard.Class(g, api.Term{Op: api.OpHole, Width: -1, Name: "a"}, m); id != 0 || ok {
			t.Errorf("e-graph %d: %d, %v", i, id, ok)
		}
	}
}

// unusable returns e-graphs that are nil or that New did not make.
func unusable(t *testing.T) []*egraph.Graph {
	var zero egraph.Graph
	used := *sample(t)
	return []*egraph.Graph{nil, &zero, &used}
}

// TestClassJoined checks P27.4 for classes with several nodes, and for an e-graph that is dirty.
func TestClassJoined(t *testing.T) {
	g := sample(t)
	g.Union(2, 5, api.WhyGiven)
	g.Union(7, 0, api.WhyGiven)
	m := api.Match{Holes: []api.Pair{{Name: "a", Id: 7}, {Name: "z", Id: 5}}}
	for _, x := range []struct {
		p    string
		want int
	}{{"?a:8", 0}, {"?z:8", 2}, {"(and ?a:8 15:8)", 2}, {"(zext 8 y:4)", 2}} {
		if id, ok := guard.Class(g, read(t, x.p), m); id != x.want || !ok {
			t.Errorf("%s: %d, %v", x.p, id, ok)
		}
	}
	// The key of a node is the form that it had at the last Rebuild.
	p := read(t, "(ite f:1 ?a:8 ?z:8)")
	if id, ok := guard.Class(g, p, m); id != 0 || ok {
		t.Error(id, ok)
	}
	g.Rebuild()
	if id, ok := guard.Class(g, p, m); id != 0 || !ok {
		t.Error(id, ok)
	}
}

// TestFits checks P27.5 for Fits.
func TestFits(t *testing.T) {
	reduce := func(zeros, lo, hi uint64) api.Facts {
		f, ok := facts.Reduce(api.Facts{Width: 8, Known: api.Known{Zeros: zeros}, Range: api.Range{Lo: lo, Hi: hi}})
		if !ok || !facts.Valid(f) {
			t.Fatal(zeros, lo, hi)
		}
		return f
	}
	low := reduce(0xf0, 0, 9)
	even := reduce(1, 0, 200)
	values := bind(api.Bind{Name: "k", Val: 16}, api.Bind{Name: "wide", Val: 256 + 16})
	for i, x := range []struct {
		kind int
		b    string
		f    api.Facts
		want bool
	}{
		{api.GuardZeros, "240:8", low, true}, {api.GuardZeros, "16:8", low, true}, {api.GuardZeros, "#k:8", low, true}, {api.GuardZeros, "#wide:8", low, true}, {api.GuardZeros, "0:8", low, true}, {api.GuardZeros, "248:8", low, false}, {api.GuardZeros, "8:8", low, false}, {api.GuardZeros, "1:8", even, true}, {api.GuardZeros, "3:8", even, false}, {api.GuardZeros, "254:8", even, false}, {api.GuardZeros, "0:8", facts.Top(8), true}, {api.GuardZeros, "1:8", facts.Top(8), false}, {api.GuardZeros, "(not 15:8)", low, true}, {api.GuardZeros, "2:8", facts.Const(8, 5), true}, {api.GuardZeros, "4:8", facts.Const(8, 5), false},
		{api.GuardBelow, "10:8", low, true}, {api.GuardBelow, "9:8", low, false}, {api.GuardBelow, "#k:8", low, true}, {api.GuardBelow, "0:8", facts.Const(8, 0), false}, {api.GuardBelow, "1:8", facts.Const(8, 0), true}, {api.GuardBelow, "255:8", facts.Top(8), false}, {api.GuardBelow, "201:8", even, true}, {api.GuardBelow, "200:8", even, false}, {api.GuardBelow, "(add #k:8 240:8)", low, false},
		// without a value
		{api.GuardZeros, "?a:8", low, false}, {api.GuardZeros, "#z:8", low, false}, {api.GuardBelow, "x:8", low, false}, {api.GuardBelow, "(eval 200:8)", low, false}, {api.GuardBelow, "#k:0", low, false},
		// another width
		{api.GuardZeros, "0:8", facts.Top(7), false}, {api.GuardBelow, "200:8", facts.Const(9, 1), false}, {api.GuardZeros, "0:8", api.Facts{}, false}, {api.GuardBelow, "200:8", api.Facts{Width: -8}, false},
		// The width of B does not matter.
		{api.GuardZeros, "16:12", low, true}, {api.GuardZeros, "256:12", low, false}, {api.GuardBelow, "256:12", facts.Top(8), true}, {api.GuardBelow, "255:12", facts.Top(8), false},
		// other kinds
		{api.GuardPred, "1:1", low, false}, {api.GuardEqual, "255:8", low, false}, {0, "255:8", low, false}, {5, "255:8", low, false}, {-1, "0:8", low, false},
		// facts that are not valid
		{api.GuardZeros, "0:8", api.Facts{Width: 8}, true}, {api.GuardZeros, "240:8", api.Facts{Width: 8, Known: api.Known{Zeros: 240}}, false}, {api.GuardZeros, "240:8", api.Facts{Width: 8, Known: api.Known{Zeros: 240}, Range: api.Range{Hi: 255}}, false}, {api.GuardBelow, "10:8", api.Facts{Width: 8, Range: api.Range{Hi: 3}}, false}, {api.GuardBelow, "255:8", api.Facts{Width: 8, Known: api.Known{Zeros: 1, Ones: 1}, Range: api.Range{Hi: 3}}, false}, {api.GuardBelow, "10:8", api.Facts{Width: 8, Known: api.Known{Zeros: 240}, Range: api.Range{Lo: 9, Hi: 8}}, false},
	} {
		c := api.Guard{Kind: x.kind, A: read(t, "?a:8"), B: read(t, x.b)}
		if ok := guard.Fits(c, x.f, values); ok != x.want {
			t.Errorf("case %d: %v", i, ok)
		}
		c.A.Width = 9
		if x.f.Width != 9 && guard.Fits(c, x.f, values) {
			t.Errorf("case %d: true for another width of A", i)
		}
	}
	// The Width is compared as it was passed, and clamped only then.
	for _, w := range []int{0, -1, 65, math.MaxInt} {
		c := api.Guard{Kind: api.GuardZeros, A: api.Term{Op: api.OpHole, Width: w, Name: "a"}, B: read(t, "0:8")}
		if !guard.Fits(c, api.Facts{Width: w}, nil) || guard.Fits(c, facts.Top(w), nil) {
			t.Errorf("width %d", w)
		}
		c.B = read(t, "1:8")
		if guard.Fits(c, api.Facts{Width: w, Known: api.Known{Zeros: 1}}, nil) {
			t.Errorf("width %d", w)
		}
		c.Kind, c.B = api.GuardBelow, read(t, "2:8")
		if below := guard.Fits(c, api.Facts{Width: w}, nil); below != (w < 1) {
			t.Errorf("width %d: %v", w, below)
		}
	}
}

// TestExample checks the example of chapter 27.
func TestExample(t *testing.T) {
	g := egraph.New()
	even, _ := represent.AddTerm(g, read(t, "(shl x:8 1:8)"))
	table, e := analysis.Run(g)
	if e != api.OK {
		t.Fatal(e)
	}
	c := make2(t, api.GuardZeros, "?a:8", "1:8")
	for id := range g.Len() {
		m := api.Match{Holes: []api.Pair{{Name: "a", Id: id}}}
		if ok := guard.Holds(g, table, c, m); ok != (id == even) {
			t.Errorf("id %d: %v", id, ok)
		}
	}
}

// TestHolds checks P27.5 for Holds.
func TestHolds(t *testing.T) {
	g := sample(t)
	table, e := analysis.Run(g)
	if e != api.OK {
		t.Fatal(e)
	}
	m := api.Match{
		Holes: []api.Pair{{Name: "a", Id: 0}, {Name: "low", Id: 2}, {Name: "y", Id: 3}, {Name: "z", Id: 5}, {Name: "bad", Id: 8}, {Name: "a", Id: 2}},
		Nums:  bind(api.Bind{Name: "k", Val: 15}, api.Bind{Name: "two", Val: 2}, api.Bind{Name: "k", Val: 3}, api.Bind{Name: "odd", Val: 256 + 16}),
	}
	for _, x := range []struct {
		kind  int
		a, b  string
		want  bool
		facts bool // whether it needs facts
	}{
		{api.GuardPred, "(eq (and #k:8 1:8) 1:8)", "", true, false}, {api.GuardPred, "(ult #k:8 15:8)", "", false, false}, {api.GuardPred, "1:8", "", true, false}, {api.GuardPred, "#two:8", "", false, false}, {api.GuardPred, "#none:1", "", false, false}, {api.GuardPred, "(eq ?a:8 ?a:8)", "", false, false}, {api.GuardPred, "f:1", "", false, false}, {api.GuardPred, "1:1", "?a:8", true, false},
		{api.GuardEqual, "?a:8", "x:8", true, false}, {api.GuardEqual, "?low:8", "(and ?a:8 #k:8)", true, false}, {api.GuardEqual, "?low:8", "?a:8", false, false}, {api.GuardEqual, "?a:8", "(or ?a:8 ?a:8)", false, false}, {api.GuardEqual, "(or ?a:8 ?a:8)", "(or ?a:8 ?a:8)", false, false}, {api.GuardEqual, "?a:8", "?bad:8", false, false}, {api.GuardEqual, "?bad:8", "?bad:8", false, false}, {api.GuardEqual, "?a:8", "(not ?a:8)", false, false}, {api.GuardEqual, "(not ?a:8)", "?a:8", false, false},
		{api.GuardZeros, "?low:8", "240:8", true, true}, {api.GuardZeros, "?low:8", "#odd:8", true, true}, {api.GuardZeros, "?low:8", "248:8", false, true}, {api.GuardZeros, "?a:8", "1:8", false, true}, {api.GuardZeros, "?a:8", "0:8", true, true}, {api.GuardZeros, "?z:8", "128:8", true, true}, {api.GuardZeros, "?y:4", "1:4", false, true}, {api.GuardZeros, "?low:4", "0:4", false, true}, {api.GuardZeros, "?bad:8", "0:8", false, true}, {api.GuardZeros, "?none:8", "0:8", false, true}, {api.GuardZeros, "?low:8", "?a:8", false, true},
		{api.GuardBelow, "?low:8", "16:8", true, true}, {api.GuardBelow, "?low:8", "15:8", false, true}, {api.GuardBelow, "?z:8", "16:8", true, true}, {api.GuardBelow, "?a:8", "255:8", false, true}, {api.GuardBelow, "?y:4", "15:4", false, true}, {api.GuardBelow, "#two:8", "16:8", false, true}, {api.GuardBelow, "#k:8", "16:8", true, true}, {api.GuardBelow, "?bad:8", "255:8", false, true}, {api.GuardBelow, "?low:8", "#none:8", false, true},
		{0, "?a:8", "x:8", false, false}, {5, "?low:8", "240:8", false, false}, {-1, "1:1", "", false, false},
	} {
		c := make2(t, x.kind, x.a, x.b)
		if ok := guard.Holds(g, table, c, m); ok != x.want {
			t.Errorf("kind %d, %s, %s: %v", x.kind, x.a, x.b, ok)
		}
		for i, none := range []*analysis.Table{nil, {}} {
			if ok := guard.Holds(g, none, c, m); ok != (x.want && !x.facts) {
				t.Errorf("kind %d, %s, %s: %v with table %d", x.kind, x.a, x.b, ok, i)
			}
		}
		for i, g := range unusable(t) {
			if guard.Holds(g, table, c, m) {
				t.Errorf("kind %d, %s, %s: true with e-graph %d", x.kind, x.a, x.b, i)
			}
		}
		mark := g.Mark()
		g.Union(1, 5, api.WhyGiven)
		if guard.Holds(g, table, c, m) {
			t.Errorf("kind %d, %s, %s: true with a dirty e-graph", x.kind, x.a, x.b)
		}
		g.Undo(mark)
	}
}

// TestHoldsLater checks P27.5 for classes that the table does not have, or has by another id.
func TestHoldsLater(t *testing.T) {
	g := sample(t)
	table, e := analysis.Run(g)
	if e != api.OK {
		t.Fatal(e)
	}
	later, _ := represent.AddTerm(g, read(t, "(and x:8 7:8)"))
	c := make2(t, api.GuardBelow, "?a:8", "16:8")
	if guard.Holds(g, table, c, api.Match{Holes: []api.Pair{{Name: "a", Id: later}}}) {
		t.Error("the table has facts about a later class")
	}
	g.Union(later, 2, api.WhyGiven)
	g.Union(0, 5, api.WhyGiven)
	g.Rebuild()
	if !guard.Holds(g, table, c, api.Match{Holes: []api.Pair{{Name: "a", Id: later}}}) {
		t.Error("the table has no facts about a class that it has by another id")
	}
	// The class of (zext 8 y) has the least id 0 now, for which the table has the facts of x.
	if guard.Holds(g, table, c, api.Match{Holes: []api.Pair{{Name: "a", Id: 5}}}) {
		t.Error("the facts are not those of the class")
	}
}
