package egraph_test

import (
	"math"
	"math/rand/v2"
	"slices"
	"strconv"
	"testing"

	"saturate/api"
	"saturate/egraph"
	"saturate/hashcons"
)

func sameDump(a, b api.Dump) bool {
	return slices.EqualFunc(a.Nodes, b.Nodes, hashcons.Same) && slices.Equal(a.Links, b.Links) && slices.Equal(a.Roots, b.Roots)
}

// TestRestore checks that Restore inverts Dump for e-graphs that are not dirty, and that the result works like a model of the e-graph.
func TestRestore(t *testing.T) {
	for seed := range uint64(40) {
		r := rand.New(rand.NewPCG(seed, 22))
		g, m := egraph.New(), &model{}
		for range 100 {
			m = step(t, r, g, m)
		}
		m.adopt(t, g, func() int { g.Rebuild(); return m.rebuild() }())
		h, e := egraph.Restore(g.Dump())
		if e != api.OK || !h.Made() || h.Dirty() || !sameDump(h.Dump(), g.Dump()) || h.Undo(0) {
			t.Fatal(e, h.Dump(), g.Dump())
		}
		m.marks = nil
		m.compare(t, h)
		for range 60 {
			m = step(t, r, h, m)
			m.compare(t, h)
		}
	}
}

// TestRestoreOwnMemory checks general rule 5 for Restore.
func TestRestoreOwnMemory(t *testing.T) {
	d := pair(t).Dump()
	d.Nodes = append(d.Nodes, node(api.OpAdd, 0, 1))
	g, _ := egraph.Restore(d)
	d.Nodes[2].Args[0], d.Nodes[4].Args[1], d.Links[0].Why = 1, 0, 99
	if n, _ := g.Node(4); n.Args[1] != 1 || g.Links()[0].Why != 5 {
		t.Error("the e-graph shares memory with the dump:", g.Dump())
	}
}

// TestRestoreFlawed checks that Restore returns for dumps with flaws, and does not return broken e-graphs.
func TestRestoreFlawed(t *testing.T) {
	a, b, bit := variable("a", 8), variable("b", 8), variable("bit", 1)
	for i, c := range []struct {
		d    api.Dump
		want api.Errno
	}{
		{api.Dump{Nodes: []api.Node{{}}}, api.ErrOp}, {api.Dump{Nodes: []api.Node{variable("A", 8)}}, api.ErrName}, {api.Dump{Nodes: []api.Node{node(api.OpNot, 0)}}, api.ErrRange}, {api.Dump{Nodes: []api.Node{a, node(api.OpNot, 1)}}, api.ErrRange}, {api.Dump{Nodes: []api.Node{variable("a", 65)}}, api.ErrWidth}, {api.Dump{Nodes: []api.Node{a, variable("a", 4)}}, api.ErrBind},
		{api.Dump{Nodes: []api.Node{a, b}, Links: []api.Link{{A: 0, B: 2}}}, api.ErrRange}, {api.Dump{Nodes: []api.Node{a, b}, Links: []api.Link{{A: math.MinInt, B: math.MaxInt}}}, api.ErrRange}, {api.Dump{Nodes: []api.Node{a, bit}, Links: []api.Link{{A: 0, B: 1}}}, api.ErrWidth},
	} {
		if g, e := egraph.Restore(c.d); g != nil || e != c.want {
			t.Errorf("case %d: %d, not %d", i, e, c.want)
		}
	}
	// Nodes that are there twice, links of connected ids, missing links and wrong Roots.
	d := api.Dump{Nodes: []api.Node{a, a, b, node(api.OpNot, 0), node(api.OpNot, 1)}, Links: []api.Link{{A: 0, B: 1}, {A: 1, B: 0}, {A: 0, B: 0}}, Roots: []int{7}}
	if g, e := egraph.Restore(d); e != api.OK || g.Dirty() || g.Len() != 4 || g.Count() != 2 || !g.Same(0, 1) || !g.Same(2, 3) || len(g.Links()) != 2 {
		t.Error(e, g.Dump())
	}
	var many []api.Node
	for k := range api.MaxNodes + 1 {
		many = append(many, variable("v"+strconv.Itoa(k), 8))
	}
	if g, e := egraph.Restore(api.Dump{Nodes: many}); g != nil || e != api.ErrFull {
		t.Error(e)
	}
	if g, e := egraph.Restore(api.Dump{Nodes: many[1:]}); e != api.OK || g.Len() != api.MaxNodes {
		t.Error(e)
	}
}
