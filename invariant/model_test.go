package invariant_test

import (
	"math/rand/v2"
	"slices"
	"testing"

	"saturate/api"
	"saturate/egraph"
	"saturate/hashcons"
	"saturate/invariant"
	"saturate/opinfo"
	"saturate/term"
)

// connected reports whether two ids are connected by those of some links whose ids are in range.
func connected(links []api.Link, nodes, a, b int) bool {
	seen := map[int]bool{}
	var visit func(id int)
	visit = func(id int) {
		if seen[id] {
			return
		}
		seen[id] = true
		for _, l := range links {
			if min(l.A, l.B) < 0 || max(l.A, l.B) >= nodes {
				continue
			}
			if l.A == id {
				visit(l.B)
			}
			if l.B == id {
				visit(l.A)
			}
		}
	}
	visit(a)
	return seen[b]
}

// least returns the least connected id.
func least(d api.Dump, id int) int {
	for other := range id {
		if connected(d.Links, len(d.Nodes), id, other) {
			return other
		}
	}
	return id
}

// hasFlaw reports whether a dump has a flaw, by its definition.
func hasFlaw(d api.Dump, kind, at int) bool {
	switch kind {
	case invariant.Malformed, invariant.Order, invariant.Widths, invariant.Twice, invariant.Closure:
		return at < len(d.Nodes) && nodeHasFlaw(d, kind, at)
	case invariant.Roots:
		common := min(len(d.Nodes), len(d.Roots))
		return at < common && d.Roots[at] != least(d, at) || at == common && len(d.Nodes) != len(d.Roots)
	}
	return at < len(d.Links) && linkHasFlaw(d, kind, at)
}

func nodeHasFlaw(d api.Dump, kind, at int) bool {
	n := d.Nodes[at]
	earlier := func(is func(at int, n api.Node) bool) bool {
		for other := range at {
			if is(other, d.Nodes[other]) {
				return true
			}
		}
		return false
	}
	bad := func(at int) bool {
		return nodeHasFlaw(d, invariant.Malformed, at) || nodeHasFlaw(d, invariant.Order, at)
	}
	switch kind {
	case invariant.Malformed:
		clash := earlier(func(_ int, o api.Node) bool {
			return n.Op == api.OpVar && o.Op == api.OpVar && o.Name == n.Name && o.Width != n.Width
		})
		pattern := n.Op == api.OpHole || n.Op == api.OpNum || n.Op == api.OpEval
		form := opinfo.Name(n.Op) == "" || pattern || len(n.Args) != opinfo.Arity(n.Op) || n.Name != "" && n.Op != api.OpVar || n.Val != 0 && n.Op != api.OpConst && n.Op != api.OpExtract
		return clash || form || n.Op == api.OpVar && !term.Name(n.Name)
	case invariant.Order:
		return slices.ContainsFunc(n.Args, func(arg int) bool { return arg < 0 || arg >= at })
	case invariant.Widths:
		if bad(at) || slices.ContainsFunc(n.Args, bad) {
			return false
		}
		var widths []int
		for _, arg := range n.Args {
			widths = append(widths, d.Nodes[arg].Width)
		}
		width, e := opinfo.Width(n.Op, n.Width, n.Val, widths)
		return n.Width < 1 || e != api.OK || width != n.Width
	case invariant.Twice:
		return earlier(func(_ int, o api.Node) bool { return hashcons.Same(n, o) })
	}
	form := func(n api.Node) api.Node { return hashcons.Canon(n, func(id int) int { return least(d, id) }) }
	return earlier(func(other int, o api.Node) bool {
		return hashcons.Same(form(n), form(o)) && !connected(d.Links, len(d.Nodes), at, other)
	})
}

func linkHasFlaw(d api.Dump, kind, at int) bool {
	l := d.Links[at]
	if min(l.A, l.B) < 0 || max(l.A, l.B) >= len(d.Nodes) {
		return kind == invariant.LinkRange
	}
	a, b := d.Nodes[l.A], d.Nodes[l.B]
	loop := connected(d.Links[:at], len(d.Nodes), l.A, l.B)
	switch kind {
	case invariant.LinkLoop:
		return loop
	case invariant.LinkWidth:
		return !loop && a.Width != b.Width
	case invariant.LinkReason:
		joined := func(x, y int) bool { return connected(d.Links[:at], len(d.Nodes), x, y) }
		return l.Why == api.WhyCongruent && !(a.Op == b.Op && a.Width == b.Width && a.Val == b.Val && a.Name == b.Name && slices.EqualFunc(a.Args, b.Args, joined))
	}
	return false
}

// flaws returns the flaws of a dump by their definitions.
func flaws(d api.Dump) []api.Flaw {
	var l []api.Flaw
	for kind := invariant.Malformed; kind <= invariant.Closure; kind++ {
		if kind == invariant.Twice && len(l) > 0 {
			break
		}
		for at := range max(len(d.Nodes), len(d.Links), len(d.Roots)) + 1 {
			if hasFlaw(d, kind, at) {
				l = append(l, api.Flaw{Kind: kind, At: at})
			}
		}
	}
	return l[:min(len(l), 64)]
}

// randomGraph returns an e-graph that is not dirty, with few different nodes.
func randomGraph(r *rand.Rand, steps int) *egraph.Graph {
	g := egraph.New()
	for range steps {
		arg := func() int { return r.IntN(g.Len() + 1) }
		switch r.IntN(8) {
		case 0:
			g.Add(api.Node{Op: api.OpVar, Width: 1 + r.IntN(2), Name: []string{"a", "b", "c", "d"}[r.IntN(4)]})
		case 1:
			g.Add(api.Node{Op: api.OpConst, Width: 2, Val: r.Uint64N(3)})
		case 2:
			g.Add(api.Node{Op: api.OpNot, Width: 2, Args: []int{arg()}})
		case 3:
			g.Add(api.Node{Op: api.OpExtract, Width: 1, Val: r.Uint64N(2), Args: []int{arg()}})
		case 4:
			g.Union(arg(), arg(), r.IntN(5))
		case 5:
			g.Rebuild()
		default:
			g.Add(api.Node{Op: api.OpAdd, Width: 1 + r.IntN(2), Args: []int{arg(), arg()}})
		}
	}
	g.Rebuild()
	return g
}

// spoil makes a random change of a dump.
func spoil(r *rand.Rand, d *api.Dump) {
	id := func() int { return r.IntN(len(d.Nodes)+2) - 1 }
	switch r.IntN(9) {
	case 0:
		d.Roots = append(d.Roots, id())
	case 1:
		d.Roots = d.Roots[:r.IntN(len(d.Roots)+1)]
	case 2:
		d.Links = append(d.Links, api.Link{A: id(), B: id(), Why: r.IntN(3) - 2})
	case 3:
		if len(d.Links) > 0 {
			d.Links = slices.Delete(d.Links, 0, 1)
		}
	case 4:
		r.Shuffle(len(d.Links), func(i, k int) { d.Links[i], d.Links[k] = d.Links[k], d.Links[i] })
	case 5:
		d.Nodes = append(d.Nodes, hashcons.Copy(d.Nodes[r.IntN(len(d.Nodes))]))
		d.Roots = append(d.Roots, len(d.Nodes)-1)
	case 6:
		spoilNode(r, &d.Nodes[r.IntN(len(d.Nodes))], id())
	case 7:
		for at := range d.Links {
			d.Links[at].Why = api.WhyCongruent
		}
	case 8:
		if len(d.Roots) > 0 {
			d.Roots[r.IntN(len(d.Roots))] = id()
		}
	}
}

func spoilNode(r *rand.Rand, n *api.Node, id int) {
	switch r.IntN(5) {
	case 0:
		n.Width = r.IntN(4)
	case 1:
		n.Op = api.Op(r.IntN(28))
	case 2:
		n.Val = r.Uint64N(3)
	case 3:
		n.Name = []string{"a", "b", ""}[r.IntN(3)]
	case 4:
		if len(n.Args) > 0 {
			n.Args[r.IntN(len(n.Args))] = id
		}
	}
}

// TestRandom checks P21.1 to P21.3 for dumps of random e-graphs, also after random changes of them.
func TestRandom(t *testing.T) {
	found := map[int]int{}
	for seed := range uint64(1500) {
		r := rand.New(rand.NewPCG(seed, 21))
		d := randomGraph(r, 3+r.IntN(25)).Dump()
		if l := invariant.Look(d); len(l) != 0 || !invariant.Sound(d) {
			t.Fatalf("seed %d: %v has the flaws %v", seed, d, l)
		}
		for range 6 {
			if len(d.Nodes) > 0 {
				spoil(r, &d)
			}
			want := flaws(d)
			if l := invariant.Look(d); !slices.Equal(l, want) || invariant.Sound(d) != (len(want) == 0) {
				t.Fatalf("seed %d: %v has the flaws %v, not %v", seed, d, l, want)
			}
			for _, f := range want {
				found[f.Kind]++
			}
			for id, root := range invariant.Roots2(d) {
				if root != least(d, id) {
					t.Fatalf("seed %d: the root of %d in %v is %d", seed, id, d, root)
				}
			}
		}
	}
	for kind := invariant.Malformed; kind <= invariant.Closure; kind++ {
		if found[kind] < 50 {
			t.Errorf("only %d flaws of the kind %s", found[kind], invariant.Name(kind))
		}
	}
}

// TestLarge checks P21.3 for a large e-graph with long chains of links.
func TestLarge(t *testing.T) {
	g := egraph.New()
	for i := range 30000 {
		if _, e := g.Add(api.Node{Op: api.OpConst, Width: 20, Val: uint64(i)}); e != api.OK {
			t.Fatal(e)
		}
		if _, e := g.Add(api.Node{Op: api.OpNot, Width: 20, Args: []int{2 * i}}); e != api.OK {
			t.Fatal(e)
		}
	}
	for i := 29999; i > 0; i-- {
		g.Union(2*i-2, 2*i, i)
	}
	g.Rebuild()
	d := g.Dump()
	if l := invariant.Look(d); len(l) != 0 || g.Count() != 2 {
		t.Error(l, g.Count())
	}
	d.Links = d.Links[1:]
	if l := invariant.Look(d); len(l) == 0 {
		t.Error("a missing link is not found")
	}
}
