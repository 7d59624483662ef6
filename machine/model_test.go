package machine_test

import (
	"math/rand/v2"
	"slices"
	"strconv"
	"testing"

	"saturate/api"
	"saturate/egraph"
	"saturate/machine"
	"saturate/program"
)

// assignment gives classes to holes and values to nums.
type assignment struct {
	holes []api.Pair
	nums  []api.Bind
}

// fits reports whether a class matches a pattern, by the definition in chapter 26.
func fits(g *egraph.Graph, p api.Term, class int, a assignment) bool {
	switch p.Op {
	case api.OpHole:
		return g.Width(class) == p.Width && slices.Contains(a.holes, api.Pair{Name: p.Name, Id: class})
	case api.OpNum:
		return slices.ContainsFunc(g.Nodes(class), func(n api.Node) bool {
			return n.Op == api.OpConst && n.Width == p.Width && slices.Contains(a.nums, api.Bind{Name: p.Name, Val: n.Val})
		})
	}
	return slices.ContainsFunc(g.Nodes(class), func(n api.Node) bool {
		if n.Op != p.Op || n.Width != p.Width || n.Val != p.Val || n.Name != p.Name {
			return false
		}
		for k, arg := range n.Args {
			if !fits(g, p.Args[k], arg, a) {
				return false
			}
		}
		return true
	})
}

// assignments calls found for all assignments of holes and nums.
func assignments(g *egraph.Graph, holes, nums []api.Var, vals []uint64, a assignment, found func(assignment)) {
	switch {
	case len(holes) > 0:
		for _, class := range g.Classes() {
			next := assignment{append(slices.Clone(a.holes), api.Pair{Name: holes[0].Name, Id: class}), a.nums}
			assignments(g, holes[1:], nums, vals, next, found)
		}
	case len(nums) > 0:
		for _, val := range vals {
			next := assignment{a.holes, append(slices.Clone(a.nums), api.Bind{Name: nums[0].Name, Val: val})}
			assignments(g, holes, nums[1:], vals, next, found)
		}
	default:
		found(a)
	}
}

// extend returns matches with a further root each, for every class that matches an atom.
func extend(g *egraph.Graph, l []api.Match, atom api.Atom, a assignment) []api.Match {
	var extended []api.Match
	for _, m := range l {
		for _, class := range g.Classes() {
			if fits(g, atom.Pattern, class, a) && (atom.Root == "" || slices.Contains(a.holes, api.Pair{Name: atom.Root, Id: class})) {
				extended = append(extended, api.Match{Roots: append(slices.Clone(m.Roots), class), Holes: m.Holes, Nums: m.Nums})
			}
		}
	}
	return extended
}

// matches returns the matches of atoms in increasing order.
func matches(g *egraph.Graph, list []api.Atom) []api.Match {
	holes, nums := program.Names(list)
	vals := []uint64{}
	for _, class := range g.Classes() {
		for _, n := range g.Nodes(class) {
			if n.Op == api.OpConst {
				vals = append(vals, n.Val)
			}
		}
	}
	slices.Sort(vals)
	var all []api.Match
	assignments(g, holes, nums, slices.Compact(vals), assignment{}, func(a assignment) {
		l := []api.Match{{Holes: a.holes, Nums: a.nums}}
		for _, atom := range list {
			l = extend(g, l, atom, a)
		}
		all = append(all, l...)
	})
	slices.SortFunc(all, machine.Compare)
	return all
}

// checkAtoms checks Find, Run and Holds for atoms and an e-graph, and returns the number of matches.
func checkAtoms(t *testing.T, g *egraph.Graph, list []api.Atom) int {
	t.Helper()
	want := matches(g, list)
	p, e := program.Compile(list)
	if e != api.OK {
		t.Fatal(e)
	}
	for _, most := range []int{len(want) + 1, api.MaxMatches, len(want), len(want) / 2, 1, 0} {
		first := want[:min(len(want), most)]
		if l, e := machine.Find(g, list, most); e != api.OK || !slices.EqualFunc(l, first, machine.Same) {
			t.Fatalf("Find of %v in %v with most %d is %v, %d, not %v", list, g.Dump(), most, l, e, first)
		}
		if l, e := machine.Run(g, p, most); e != api.OK || !slices.EqualFunc(l, first, machine.Same) {
			t.Fatalf("Run of %v in %v with most %d is %v, %d, not %v", list, g.Dump(), most, l, e, first)
		}
	}
	for _, m := range want {
		if !machine.Holds(g, list, m) {
			t.Fatalf("%v does not hold for %v in %v", m, list, g.Dump())
		}
	}
	return len(want)
}

// checkChanged checks Holds for a match of which something was changed.
func checkChanged(t *testing.T, r *rand.Rand, g *egraph.Graph, list []api.Atom, all []api.Match) {
	t.Helper()
	m := all[r.IntN(len(all))]
	m = api.Match{Roots: slices.Clone(m.Roots), Holes: slices.Clone(m.Holes), Nums: slices.Clone(m.Nums)}
	id := r.IntN(g.Len()+2) - 1
	switch k := r.IntN(3); {
	case k == 0 && len(m.Holes) > 0:
		m.Holes[r.IntN(len(m.Holes))].Id = id
	case k == 1 && len(m.Nums) > 0:
		m.Nums[r.IntN(len(m.Nums))].Val = r.Uint64N(20)
	default:
		m.Roots[r.IntN(len(m.Roots))] = id
	}
	want := slices.ContainsFunc(all, func(other api.Match) bool { return machine.Same(m, other) })
	if machine.Holds(g, list, m) != want {
		t.Fatalf("Holds is not %v for %v and %v in %v", want, m, list, g.Dump())
	}
}

// randomGraph returns an e-graph that is not dirty, with terms of several widths and few classes. A class can have several consts.
func randomGraph(r *rand.Rand, nodes, joins int) *egraph.Graph {
	g := egraph.New()
	for range nodes {
		arg := func() int { return r.IntN(g.Len() + 1) }
		op := api.Op(1 + r.IntN(23))
		n := api.Node{Op: op, Width: []int{1, 2, 2, 2, 4}[r.IntN(5)]}
		switch op {
		case api.OpVar:
			n.Name = []string{"a", "b", "c"}[r.IntN(3)]
		case api.OpConst:
			n.Val = r.Uint64N(4)
		case api.OpNot, api.OpNeg, api.OpZext, api.OpSext:
			n.Args = []int{arg()}
		case api.OpExtract:
			n.Args, n.Val = []int{arg()}, r.Uint64N(3)
		case api.OpIte:
			n.Args = []int{arg(), arg(), arg()}
		default:
			n.Args = []int{arg(), arg()}
		}
		g.Add(n)
	}
	for range joins {
		g.Union(r.IntN(g.Len()+1), r.IntN(g.Len()+1), 0)
	}
	g.Rebuild()
	return g
}

// randomPattern returns a pattern that matches a class, if its holes and nums allow it.
func randomPattern(r *rand.Rand, g *egraph.Graph, class, depth int) api.Term {
	width := g.Width(class)
	name := []string{"a", "b"}[r.IntN(2)] + strconv.Itoa(width)
	l := g.Nodes(class)
	n := l[r.IntN(len(l))]
	switch {
	case n.Op == api.OpConst && r.IntN(2) == 0:
		return api.Term{Op: api.OpNum, Width: width, Name: "n" + name}
	case n.Op == api.OpVar || depth == 0 || r.IntN(6) == 0:
		return api.Term{Op: api.OpHole, Width: width, Name: name}
	}
	p := api.Term{Op: n.Op, Width: n.Width, Val: n.Val}
	for _, arg := range n.Args {
		p.Args = append(p.Args, randomPattern(r, g, arg, depth-1))
	}
	return p
}

// TestDefinition checks P26.2 to P26.4 for random atoms and e-graphs.
func TestDefinition(t *testing.T) {
	some, many := 0, 0
	for seed := range uint64(3000) {
		r := rand.New(rand.NewPCG(seed, 26))
		g := randomGraph(r, 6+r.IntN(16), r.IntN(8))
		if g.Len() == 0 {
			continue
		}
		var list []api.Atom
		for range 1 + r.IntN(3) {
			class := r.IntN(g.Len())
			a := api.Atom{Pattern: randomPattern(r, g, class, r.IntN(4))}
			if r.IntN(2) == 0 {
				a.Root = []string{"a", "b", "r"}[r.IntN(3)] + strconv.Itoa(g.Width(class))
			}
			list = append(list, a)
		}
		if holes, _ := program.Names(list); len(holes) > 4 {
			continue
		}
		n := checkAtoms(t, g, list)
		if n > 0 {
			some++
			all := matches(g, list)
			for range 20 {
				checkChanged(t, r, g, list, all)
			}
		}
		if n > 1 {
			many++
		}
	}
	if some < 1500 || many < 300 {
		t.Error("too few matches:", some, many)
	}
}
