package invariant_test

import (
	"math"
	"slices"
	"strconv"
	"testing"

	"saturate/api"
	"saturate/invariant"
)

func variable(name string, width int) api.Node {
	return api.Node{Op: api.OpVar, Width: width, Name: name}
}

func constant(width int, val uint64) api.Node {
	return api.Node{Op: api.OpConst, Width: width, Val: val}
}

// node returns a node of width 8.
func node(op api.Op, args ...int) api.Node {
	return api.Node{Op: op, Width: 8, Args: args}
}

// own returns Roots for nodes that are all in classes of their own.
func own(nodes int) []int {
	roots := make([]int, nodes)
	for id := range roots {
		roots[id] = id
	}
	return roots
}

// good returns a dump without flaws: a and b are joined, and so are (not a) and (not b).
func good() api.Dump {
	return api.Dump{
		Nodes: []api.Node{variable("a", 8), variable("b", 8), node(api.OpNot, 0), node(api.OpNot, 1), variable("c", 4)},
		Links: []api.Link{{A: 1, B: 0, Why: 7}, {A: 2, B: 3, Why: api.WhyCongruent}},
		Roots: []int{0, 0, 2, 2, 4},
	}
}

// checkFlaws checks Look and Sound.
func checkFlaws(t *testing.T, what string, d api.Dump, want ...api.Flaw) {
	t.Helper()
	if l := invariant.Look(d); !slices.Equal(l, want) {
		t.Errorf("%s: the flaws are %v, not %v", what, l, want)
	}
	if invariant.Sound(d) != (len(want) == 0) {
		t.Errorf("%s: Sound is %v", what, invariant.Sound(d))
	}
}

// TestExamples checks the examples of chapter 21.
func TestExamples(t *testing.T) {
	checkFlaws(t, "(not 0) alone", api.Dump{Nodes: []api.Node{node(api.OpNot, 0)}}, api.Flaw{Kind: invariant.Order})
	checkFlaws(t, "a and not(a)", api.Dump{Nodes: []api.Node{variable("a", 8), node(api.OpNot, 0)}, Roots: []int{0, 0}}, api.Flaw{Kind: invariant.Roots, At: 1})
	checkFlaws(t, "good", good())
	checkFlaws(t, "empty", api.Dump{})
}

// TestName checks the names and numbers of kinds (P21.2).
func TestName(t *testing.T) {
	for i, c := range []struct {
		kind int
		name string
	}{{invariant.Malformed, "malformed"}, {invariant.Order, "order"}, {invariant.Widths, "widths"}, {invariant.Twice, "twice"}, {invariant.LinkRange, "linkrange"}, {invariant.LinkLoop, "linkloop"}, {invariant.LinkWidth, "linkwidth"}, {invariant.LinkReason, "linkreason"}, {invariant.Roots, "roots"}, {invariant.Closure, "closure"}} {
		if c.kind != i+1 || invariant.Name(c.kind) != c.name {
			t.Errorf("kind %d is %s, not %d, %s", c.kind, invariant.Name(c.kind), i+1, c.name)
		}
	}
	for _, kind := range []int{0, -1, 11, math.MinInt, math.MaxInt} {
		if s := invariant.Name(kind); s != "" {
			t.Errorf("kind %d is %s", kind, s)
		}
	}
}

// TestMalformed checks the kind Malformed for all forms that egraph.Add rejects by ErrOp or ErrName, and only for these.
func TestMalformed(t *testing.T) {
	for _, n := range []api.Node{
		{}, {Op: 27, Width: 8}, {Op: -1, Width: 8}, {Op: math.MaxInt, Width: 8}, {Op: api.OpHole, Width: 8, Name: "a"}, {Op: api.OpNum, Width: 8, Name: "a"}, node(api.OpEval, 0),
		node(api.OpNot), node(api.OpNot, 0, 0), node(api.OpAdd, 0), node(api.OpAdd, 0, 0, 0), node(api.OpIte, 1, 0), node(api.OpConst, 0), {Op: api.OpVar, Width: 8, Name: "b", Args: []int{0}},
		{Op: api.OpNot, Width: 8, Name: "a", Args: []int{0}}, {Op: api.OpConst, Width: 8, Name: "a"}, {Op: api.OpVar, Width: 8, Name: "b", Val: 1}, {Op: api.OpZext, Width: 9, Val: 1, Args: []int{0}},
		variable("", 8), variable("A", 8), variable("abcdefghijklmnopq", 8), variable("1", 0),
	} {
		d := api.Dump{Nodes: []api.Node{variable("a", 8), variable("bit", 1), n, node(api.OpNot, 2), constant(4, 16), node(api.OpAdd, 1, 0)}}
		// What depends on the node is not examined, unlike the last nodes; and Roots are not either.
		checkFlaws(t, "malformed", d, api.Flaw{Kind: invariant.Malformed, At: 2}, api.Flaw{Kind: invariant.Widths, At: 4}, api.Flaw{Kind: invariant.Widths, At: 5})
	}
}

// TestVars checks the kind Malformed for vars with several widths.
func TestVars(t *testing.T) {
	flaw := func(kind, at int) api.Flaw { return api.Flaw{Kind: kind, At: at} }
	checkFlaws(t, "two widths", api.Dump{Nodes: []api.Node{variable("a", 8), variable("a", 4)}}, flaw(invariant.Malformed, 1))
	checkFlaws(t, "the first width again", api.Dump{Nodes: []api.Node{variable("a", 8), variable("a", 4), variable("a", 8), variable("b", 4), variable("a", 4)}}, flaw(invariant.Malformed, 1), flaw(invariant.Malformed, 2), flaw(invariant.Malformed, 4))
	checkFlaws(t, "widths that are none", api.Dump{Nodes: []api.Node{variable("a", 0), variable("a", 65), variable("b", -1)}}, flaw(invariant.Malformed, 1), flaw(invariant.Widths, 0), flaw(invariant.Widths, 2))
	checkFlaws(t, "malformed vars", api.Dump{Nodes: []api.Node{{Op: api.OpVar, Width: 8, Name: "a", Val: 1}, variable("a", 4), variable("b", 8), {Op: api.OpVar, Width: 4, Name: "b", Args: []int{0}}, variable("b", 8)}},
		flaw(invariant.Malformed, 0), flaw(invariant.Malformed, 1), flaw(invariant.Malformed, 3), flaw(invariant.Malformed, 4))
	checkFlaws(t, "other nodes", api.Dump{Nodes: []api.Node{variable("a", 8), {Op: api.OpConst, Width: 4, Name: "a"}, variable("a", 8)}}, flaw(invariant.Malformed, 1))
	checkFlaws(t, "equal vars", api.Dump{Nodes: []api.Node{variable("a", 8), variable("a", 8)}, Roots: own(2)}, flaw(invariant.Twice, 1), flaw(invariant.Closure, 1))
}

// TestOrder checks the kind Order.
func TestOrder(t *testing.T) {
	for _, args := range [][]int{{-1, 0}, {0, -1}, {1, 0}, {0, 1}, {0, 2}, {math.MinInt, 0}, {0, math.MaxInt}} {
		d := api.Dump{Nodes: []api.Node{variable("a", 8), node(api.OpAdd, args...), node(api.OpNot, 1), node(api.OpNot, 0), {Op: api.OpNot, Width: 4, Args: []int{3}}}, Links: []api.Link{{A: -1}}}
		checkFlaws(t, "order", d, api.Flaw{Kind: invariant.Order, At: 1}, api.Flaw{Kind: invariant.Widths, At: 4})
	}
	d := api.Dump{Nodes: []api.Node{variable("a", 8), {Op: api.OpVar, Width: 8, Name: "b", Args: []int{1}}, node(99, 7), node(api.OpNot, 3)}}
	checkFlaws(t, "malformed nodes", d, api.Flaw{Kind: invariant.Malformed, At: 1}, api.Flaw{Kind: invariant.Malformed, At: 2}, api.Flaw{Kind: invariant.Order, At: 1}, api.Flaw{Kind: invariant.Order, At: 2}, api.Flaw{Kind: invariant.Order, At: 3})
}

// TestWidths checks the kind Widths.
func TestWidths(t *testing.T) {
	for _, n := range []api.Node{
		variable("c", 0), variable("c", -1), variable("c", 65), constant(0, 0), constant(4, 16), constant(math.MinInt, 0),
		node(api.OpNot, 1), node(api.OpAdd, 0, 1), node(api.OpEq, 0, 0), node(api.OpIte, 0, 0, 0), {Op: api.OpExtract, Width: 4, Val: 5, Args: []int{0}}, {Op: api.OpExtract, Width: 0, Args: []int{0}}, {Op: api.OpZext, Width: 7, Args: []int{0}}, node(api.OpConcat, 0, 1), {Op: api.OpConcat, Width: 65, Args: []int{0, 0}},
	} {
		d := api.Dump{Nodes: []api.Node{variable("a", 8), variable("bit", 1), n, node(api.OpNot, 0)}, Roots: []int{9}}
		checkFlaws(t, "widths", d, api.Flaw{Kind: invariant.Widths, At: 2})
	}
	// The stated width of an operand counts, also if it is wrong.
	d := api.Dump{Nodes: []api.Node{variable("a", 8), {Op: api.OpNot, Width: 4, Args: []int{0}}, {Op: api.OpNeg, Width: 4, Args: []int{1}}, {Op: api.OpNeg, Width: 8, Args: []int{1}}}}
	checkFlaws(t, "wrong operands", d, api.Flaw{Kind: invariant.Widths, At: 1}, api.Flaw{Kind: invariant.Widths, At: 3})
}

// TestTwice checks the kinds Twice and Closure.
func TestTwice(t *testing.T) {
	flaw := func(kind, at int) api.Flaw { return api.Flaw{Kind: kind, At: at} }
	nodes := []api.Node{variable("a", 8), variable("b", 8), node(api.OpNot, 0), node(api.OpNot, 1), node(api.OpNot, 0), node(api.OpNot, 1), node(api.OpNeg, 0), {Op: api.OpExtract, Width: 4, Val: 1, Args: []int{0}}, {Op: api.OpExtract, Width: 4, Val: 2, Args: []int{0}}, {Op: api.OpExtract, Width: 3, Val: 2, Args: []int{0}}}
	checkFlaws(t, "equal nodes", api.Dump{Nodes: nodes, Roots: own(10)}, flaw(invariant.Twice, 4), flaw(invariant.Twice, 5), flaw(invariant.Closure, 4), flaw(invariant.Closure, 5))
	checkFlaws(t, "equal nodes that are joined", api.Dump{Nodes: nodes[:5], Links: []api.Link{{A: 4, B: 2}}, Roots: []int{0, 1, 2, 3, 2}}, flaw(invariant.Twice, 4))
	checkFlaws(t, "equal forms", api.Dump{Nodes: nodes[:4], Links: []api.Link{{A: 1, B: 0}}, Roots: []int{0, 0, 2, 3}}, flaw(invariant.Closure, 3))
	// A node is connected with one of the earlier nodes of its form, but not with the other one.
	nodes = []api.Node{variable("a", 8), variable("b", 8), variable("c", 8), node(api.OpNot, 0), node(api.OpNot, 1), node(api.OpNot, 2)}
	links := []api.Link{{A: 0, B: 1}, {A: 1, B: 2}, {A: 3, B: 5}}
	checkFlaws(t, "three forms", api.Dump{Nodes: nodes, Links: links, Roots: []int{0, 0, 0, 3, 4, 3}}, flaw(invariant.Closure, 4), flaw(invariant.Closure, 5))
	links = append(links, api.Link{A: 4, B: 5, Why: api.WhyCongruent})
	checkFlaws(t, "three joined forms", api.Dump{Nodes: nodes, Links: links, Roots: []int{0, 0, 0, 3, 3, 3}})
}

// TestLinks checks the kinds LinkRange, LinkLoop and LinkWidth.
func TestLinks(t *testing.T) {
	flaw := func(kind, at int) api.Flaw { return api.Flaw{Kind: kind, At: at} }
	for _, l := range []api.Link{{A: -1, B: 0}, {A: 0, B: -1}, {A: 5, B: 0}, {A: 0, B: 5}, {A: 5, B: 5}, {A: -1, B: -1, Why: api.WhyCongruent}, {A: math.MinInt, B: math.MaxInt}} {
		d := good()
		d.Links = append([]api.Link{l}, d.Links...)
		checkFlaws(t, "out of range", d, flaw(invariant.LinkRange, 0))
	}
	for _, l := range []api.Link{{A: 0, B: 1}, {A: 1, B: 0}, {A: 3, B: 2, Why: -5}, {A: 4, B: 4}, {A: 0, B: 0}, {A: 3, B: 2, Why: api.WhyCongruent}, {A: 4, B: 4, Why: api.WhyCongruent}} {
		d := good()
		d.Links = append(d.Links, l)
		checkFlaws(t, "loop", d, flaw(invariant.LinkLoop, 2))
	}
	d := good()
	d.Links = append(d.Links, api.Link{A: 4, B: 3}, api.Link{A: 2, B: 4}, api.Link{A: 9, B: 4}, api.Link{A: 1, B: 4}, api.Link{A: 0, B: 3})
	d.Roots = []int{0, 0, 0, 0, 0}
	checkFlaws(t, "widths", d, flaw(invariant.LinkRange, 4), flaw(invariant.LinkLoop, 3), flaw(invariant.LinkLoop, 6), flaw(invariant.LinkWidth, 2), flaw(invariant.LinkWidth, 5))
}

// TestReasons checks the kind LinkReason.
func TestReasons(t *testing.T) {
	flaw := func(kind, at int) api.Flaw { return api.Flaw{Kind: kind, At: at} }
	part := func(width int, val uint64, arg int) api.Node {
		return api.Node{Op: api.OpExtract, Width: width, Val: val, Args: []int{arg}}
	}
	nodes := []api.Node{variable("a", 8), variable("b", 8), variable("c", 8), node(api.OpAdd, 0, 2), node(api.OpAdd, 1, 2), node(api.OpAdd, 1, 0), node(api.OpSub, 0, 2), part(4, 0, 0), part(4, 1, 1), part(3, 0, 1), constant(8, 1), constant(8, 2), variable("d", 8)}
	look := func(joined api.Link, want ...api.Flaw) {
		t.Helper()
		d := api.Dump{Nodes: nodes, Links: []api.Link{{A: 0, B: 1, Why: 3}, joined}}
		d.Roots = invariant.Roots2(d)
		want = append(want, flaw(invariant.Closure, 4))
		if joined == (api.Link{A: 4, B: 3, Why: api.WhyCongruent}) {
			want = nil
		}
		checkFlaws(t, "link of "+strconv.Itoa(joined.A)+" and "+strconv.Itoa(joined.B), d, want...)
	}
	look(api.Link{A: 4, B: 3, Why: api.WhyCongruent})
	for _, ids := range [][2]int{{2, 12}, {4, 5}, {3, 6}, {7, 8}, {10, 11}, {2, 10}, {5, 3}} {
		look(api.Link{A: ids[0], B: ids[1], Why: api.WhyCongruent}, flaw(invariant.LinkReason, 1))
		look(api.Link{A: ids[0], B: ids[1], Why: api.WhyFacts})
	}
	look(api.Link{A: 7, B: 9, Why: api.WhyCongruent}, flaw(invariant.LinkWidth, 1), flaw(invariant.LinkReason, 1))
	look(api.Link{A: 0, B: 1, Why: api.WhyCongruent}, flaw(invariant.LinkLoop, 1), flaw(invariant.LinkReason, 1))
	look(api.Link{A: 3, B: 3, Why: api.WhyCongruent}, flaw(invariant.LinkLoop, 1))
	// The Args have to be connected before.
	d := good()
	slices.Reverse(d.Links)
	checkFlaws(t, "reversed links", d, flaw(invariant.LinkReason, 0))
	d.Links = []api.Link{{A: 2, B: 3, Why: api.WhyCongruent}, {A: 7, B: 0}, {A: 1, B: 7}, {A: 1, B: 0}}
	checkFlaws(t, "no chain", d, flaw(invariant.LinkRange, 1), flaw(invariant.LinkRange, 2), flaw(invariant.LinkReason, 0))
}

// TestRoots checks the kind Roots, and Roots2.
func TestRoots(t *testing.T) {
	flaw := func(kind, at int) api.Flaw { return api.Flaw{Kind: kind, At: at} }
	d := good()
	d.Roots = []int{0, 1, 3, 2, -4}
	checkFlaws(t, "wrong entries", d, flaw(invariant.Roots, 1), flaw(invariant.Roots, 2), flaw(invariant.Roots, 4))
	d.Roots = []int{0, 0, 2}
	checkFlaws(t, "missing entries", d, flaw(invariant.Roots, 3))
	d.Roots = nil
	checkFlaws(t, "no entries", d, flaw(invariant.Roots, 0))
	d.Roots = []int{0, 0, 2, 2, 4, 5, 6}
	checkFlaws(t, "surplus entries", d, flaw(invariant.Roots, 5))
	d.Roots = []int{0, 0, 2, 2, 3, 5}
	checkFlaws(t, "wrong and surplus entries", d, flaw(invariant.Roots, 4), flaw(invariant.Roots, 5))
	checkFlaws(t, "no nodes", api.Dump{Roots: []int{0}}, flaw(invariant.Roots, 0))
	d.Links = append(d.Links, api.Link{A: 9, B: 0}, api.Link{A: 4, B: -1}, api.Link{A: 4, B: 3}, api.Link{A: 4, B: 3})
	if l := invariant.Roots2(d); !slices.Equal(l, []int{0, 0, 2, 2, 2}) {
		t.Error(l)
	}
	// The dump need not be valid otherwise.
	wild := api.Dump{Nodes: make([]api.Node, 6), Links: []api.Link{{A: 5, B: 4}, {A: 4, B: 3}, {A: 1, B: 2}, {A: 2, B: 5}, {A: 6, B: 0}, {A: 0, B: -1}}}
	if l := invariant.Roots2(wild); !slices.Equal(l, []int{0, 1, 1, 1, 1, 1}) {
		t.Error(l)
	}
	if l := invariant.Roots2(api.Dump{Links: []api.Link{{}}, Roots: []int{7}}); len(l) != 0 {
		t.Error(l)
	}
}

// TestMost checks that at most 64 flaws are returned: the first ones.
func TestMost(t *testing.T) {
	for _, n := range []int{63, 64, 65, 1000} {
		d := api.Dump{Nodes: []api.Node{variable("a", 8)}, Roots: own(n)}
		for range n {
			d.Links = append(d.Links, api.Link{A: 0, B: 0})
		}
		var want []api.Flaw
		for at := range n {
			want = append(want, api.Flaw{Kind: invariant.LinkLoop, At: at})
		}
		want = append(want, api.Flaw{Kind: invariant.Roots, At: 1})
		checkFlaws(t, strconv.Itoa(n), d, want[:min(n+1, 64)]...)
	}
	var d api.Dump
	for range 100 {
		d.Nodes = append(d.Nodes, node(api.OpNot, len(d.Nodes)), node(99))
	}
	l := invariant.Look(d)
	if len(l) != 64 || l[0] != (api.Flaw{Kind: invariant.Malformed, At: 1}) || l[63] != (api.Flaw{Kind: invariant.Malformed, At: 127}) {
		t.Error(l)
	}
}

// TestMemory checks general rule 5.
func TestMemory(t *testing.T) {
	d := good()
	l := invariant.Roots2(d)
	l[0] = 9
	if got := invariant.Roots2(d); got[0] != 0 || d.Roots[0] != 0 {
		t.Error(got)
	}
	checkFlaws(t, "afterwards", d)
}
