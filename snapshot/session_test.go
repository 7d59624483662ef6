package snapshot_test

import (
	"math/rand/v2"
	"slices"
	"testing"

	"saturate/api"
	"saturate/egraph"
	"saturate/hashcons"
	"saturate/invariant"
	"saturate/snapshot"
)

// randomNode returns a node whose Args are mostly ids. Few of them are different, so that congruences are frequent.
func randomNode(r *rand.Rand, ids int) api.Node {
	arg := func() int { return r.IntN(ids+1) - r.IntN(12)/11 }
	switch r.IntN(8) {
	case 0, 1:
		return variable([]string{"a", "b", "c", "d", "e", ""}[r.IntN(6)], 8-r.IntN(12)/11)
	case 2:
		return api.Node{Op: api.OpConst, Width: 8, Val: r.Uint64N(4)}
	case 3:
		return api.Node{Op: api.OpEq, Width: 1, Args: []int{arg(), arg()}}
	case 4:
		return node(api.OpIte, arg(), arg(), arg())
	case 5:
		return node(api.OpAdd, arg(), arg())
	case 6:
		return api.Node{Op: api.OpExtract, Width: 8, Val: r.Uint64N(2), Args: []int{arg()}}
	}
	return node(api.OpNot, arg())
}

// step performs a random operation on two e-graphs, which have to return the same.
func step(t *testing.T, r *rand.Rand, g, h *egraph.Graph) {
	t.Helper()
	ids := g.Len()
	switch r.IntN(10) {
	case 0, 1:
		a, b, why := r.IntN(ids+1), r.IntN(ids+1)-r.IntN(12)/11, r.IntN(5)-3
		wantOk, want := g.Union(a, b, why)
		if ok, e := h.Union(a, b, why); ok != wantOk || e != want {
			t.Fatalf("Union(%d, %d, %d) is %v, %d, not %v, %d", a, b, why, ok, e, wantOk, want)
		}
	case 2:
		want := g.Rebuild()
		if n := h.Rebuild(); n != want {
			t.Fatalf("Rebuild is %d, not %d", n, want)
		}
	default:
		n := randomNode(r, ids)
		wantFound, wantOk := g.Lookup(n)
		if id, ok := h.Lookup(n); id != wantFound || ok != wantOk {
			t.Fatalf("Lookup of %v is %d, %v, not %d, %v", n, id, ok, wantFound, wantOk)
		}
		wantId, want := g.Add(n)
		if id, e := h.Add(n); id != wantId || e != want {
			t.Fatalf("Add of %v is %d, %d, not %d, %d", n, id, e, wantId, want)
		}
	}
}

// compare compares what two e-graphs tell, except for links that congruences add.
func compare(t *testing.T, g, h *egraph.Graph) {
	t.Helper()
	d, e := g.Dump(), h.Dump()
	if !slices.EqualFunc(d.Nodes, e.Nodes, hashcons.Same) || !slices.Equal(d.Roots, e.Roots) || len(d.Links) != len(e.Links) {
		t.Fatalf("the dump is %v, not %v", e, d)
	}
	for k, l := range g.Links() {
		if m := h.Links()[k]; l != m && (l.Why != api.WhyCongruent || m.Why != api.WhyCongruent) {
			t.Fatalf("link %d is %v, not %v", k, m, l)
		}
	}
	if g.Len() != h.Len() || g.Count() != h.Count() || g.Dirty() != h.Dirty() || !slices.Equal(g.Classes(), h.Classes()) {
		t.Fatalf("%d nodes, %d classes %v, dirty %v, not %d, %d, %v, %v", h.Len(), h.Count(), h.Classes(), h.Dirty(), g.Len(), g.Count(), g.Classes(), g.Dirty())
	}
	for id := -1; id <= g.Len(); id++ {
		n, ok := g.Node(id)
		m, mOk := h.Node(id)
		if g.Find(id) != h.Find(id) || g.Width(id) != h.Width(id) || !slices.Equal(g.Parents(id), h.Parents(id)) || !slices.EqualFunc(g.Nodes(id), h.Nodes(id), hashcons.Same) || ok != mOk || !hashcons.Same(n, m) {
			t.Fatalf("id %d differs in %v and %v", id, e, d)
		}
		_, connected := g.Path(0, id)
		if path, ok := h.Path(0, id); ok != connected || g.Same(0, id) != h.Same(0, id) || ok && id > 0 && len(path) == 0 {
			t.Fatalf("id %d differs in %v and %v", id, e, d)
		}
	}
}

// TestSaveAndLoad checks P22.3 to P22.5 for sequences of operations: whether an e-graph is saved and loaded makes no difference.
func TestSaveAndLoad(t *testing.T) {
	for seed := range uint64(80) {
		r := rand.New(rand.NewPCG(seed, 22))
		g, h := egraph.New(), egraph.New()
		for range 4 {
			for range 40 {
				step(t, r, g, h)
				compare(t, g, h)
			}
			g.Rebuild()
			h.Rebuild()
			if !invariant.Sound(h.Dump()) {
				t.Fatal("flaws:", h.Dump())
			}
			b, e := snapshot.Save(h)
			if e != api.OK {
				t.Fatal("Save:", e)
			}
			dump := h.Dump()
			h, e = snapshot.Load(b)
			if e != api.OK || !snapshot.Same(h.Dump(), dump) || h.Dirty() || h.Undo(0) {
				t.Fatal("Load:", e, h.Dump(), dump)
			}
			compare(t, g, h)
		}
	}
}
