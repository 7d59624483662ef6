package selection_test

import (
	"math/rand/v2"
	"slices"
	"testing"

	"saturate/api"
	"saturate/cost"
	"saturate/egraph"
	"saturate/hashcons"
	"saturate/represent"
	"saturate/selection"
	"saturate/term"
	"saturate/treebest"
)

// randomGraph returns a rebuilt e-graph in which many terms are equal, whatever their values are.
func randomGraph(t *testing.T, r *rand.Rand) *egraph.Graph {
	t.Helper()
	g := graph(t, "x:8", "y:8", "1:8")
	size := 5 + r.IntN(14)
	for g.Len() < size {
		arg := func() int { return r.IntN(g.Len()) }
		n := api.Node{Op: api.OpNot, Width: 8, Args: []int{arg()}}
		if r.IntN(3) > 0 {
			n = api.Node{Op: api.OpAdd, Width: 8, Args: []int{arg(), arg()}}
		}
		if _, e := g.Add(n); e != api.OK {
			t.Fatal(e)
		}
	}
	for range r.IntN(size / 2) {
		join(t, g, r.IntN(size), r.IntN(size))
	}
	g.Rebuild()
	return g
}

// randomChoices returns choices for most ids, mostly of nodes of their classes.
func randomChoices(r *rand.Rand, g *egraph.Graph) []api.Choice {
	var l []api.Choice
	for id := range g.Len() {
		nodes := g.Nodes(id)
		c := api.Choice{Class: id, Node: nodes[r.IntN(len(nodes))]}
		switch r.IntN(60) {
		case 0:
			continue
		case 1:
			c.Class = r.IntN(g.Len()+4) - 2
		case 2:
			c.Node = api.Node{Op: api.OpIte, Width: 8, Args: []int{r.IntN(g.Len() + 1), r.IntN(g.Len()+2) - 2, id}}
		}
		l = append(l, c)
	}
	r.Shuffle(len(l), func(i, k int) { l[i], l[k] = l[k], l[i] })
	return l
}

// nodeOf returns the first choice for a class, and whether there is one.
func nodeOf(g *egraph.Graph, l []api.Choice, class int) (api.Node, bool) {
	for _, c := range l {
		if g.Find(c.Class) == class {
			return c.Node, true
		}
	}
	return api.Node{}, false
}

// leads returns the classes to which the node of a class leads.
func leads(g *egraph.Graph, l []api.Choice, class int) []int {
	n, _ := nodeOf(g, l, class)
	var to []int
	for _, arg := range n.Args {
		if g.Find(arg) >= 0 {
			to = append(to, g.Find(arg))
		}
	}
	return to
}

// reachedFrom returns the classes to which some classes lead, and themselves.
func reachedFrom(g *egraph.Graph, l []api.Choice, from []int) []int {
	var found []int
	for len(from) > 0 {
		class := from[0]
		from = from[1:]
		if !slices.Contains(found, class) {
			found = append(found, class)
			from = append(from, leads(g, l, class)...)
		}
	}
	slices.Sort(found)
	return found
}

// cycles returns all cycles of a list of classes, beginning with their least classes.
func cycles(g *egraph.Graph, l []api.Choice, classes []int) [][]int {
	var found [][]int
	var extend func(path []int)
	extend = func(path []int) {
		for _, class := range leads(g, l, path[len(path)-1]) {
			switch {
			case class == path[0]:
				found = append(found, slices.Clone(path))
			case class > path[0] && !slices.Contains(path, class):
				extend(append(slices.Clone(path), class))
			}
		}
	}
	for _, class := range classes {
		extend([]int{class})
	}
	return found
}

// least returns the shortest one of several lists, and of several the least one.
func least(lists [][]int) []int {
	if len(lists) == 0 {
		return nil
	}
	return slices.MinFunc(lists, func(a, b []int) int {
		if len(a) != len(b) {
			return len(a) - len(b)
		}
		return slices.Compare(a, b)
	})
}

// checkModel returns what Check has to return for a graph that is not dirty.
func checkModel(g *egraph.Graph, roots []int, l []api.Choice) (int, api.Errno) {
	for i, root := range roots {
		if root < 0 || root >= g.Len() {
			return i, api.ErrRange
		}
	}
	var classes []int
	for _, root := range roots {
		classes = append(classes, g.Find(root))
	}
	reached := reachedFrom(g, l, classes)
	for _, class := range reached {
		if _, ok := nodeOf(g, l, class); !ok {
			return class, api.ErrNone
		}
	}
	for _, class := range reached {
		n, _ := nodeOf(g, l, class)
		if !slices.ContainsFunc(g.Nodes(class), func(m api.Node) bool { return hashcons.Same(m, n) }) {
			return class, api.ErrForm
		}
	}
	for _, class := range reached {
		if slices.Contains(reachedFrom(g, l, leads(g, l, class)), class) {
			return class, api.ErrCycle
		}
	}
	return 0, api.OK
}

// TestModel checks P40.1 to P40.5 for random selections.
func TestModel(t *testing.T) {
	r := rand.New(rand.NewPCG(40, 1))
	count := map[api.Errno]int{}
	lengths := map[int]int{}
	for range 6000 {
		g := randomGraph(t, r)
		l := randomChoices(r, g)
		var roots []int
		for range r.IntN(4) {
			roots = append(roots, r.IntN(g.Len()))
		}
		if r.IntN(20) == 0 {
			roots = append(roots, r.IntN(3)*g.Len()-g.Len()/2)
		}
		at, e := selection.Check(g, roots, l)
		if wantAt, want := checkModel(g, roots, l); at != wantAt || e != want {
			t.Fatalf("Check of %v, %v: %d, %d, not %d, %d in %v", roots, l, at, e, wantAt, want, g.Dump())
		}
		count[e]++
		reached := checkReached(t, g, roots, l)
		want := least(cycles(g, l, reached))
		if got := selection.Cycle(g, roots, l); !slices.Equal(got, want) {
			t.Fatalf("Cycle of %v, %v: %v, not %v in %v", roots, l, got, want, g.Dump())
		}
		lengths[len(want)]++
		checkTrim(t, g, roots, l)
		if e == api.OK {
			checkTerms(t, g, roots, l)
		}
	}
	for _, e := range []api.Errno{api.OK, api.ErrRange, api.ErrNone, api.ErrForm, api.ErrCycle} {
		if count[e] < 50 {
			t.Error(count)
		}
	}
	if lengths[0] < 50 || lengths[1] < 50 || lengths[2] < 50 || lengths[3] < 50 {
		t.Error(lengths)
	}
}

// TestCycles checks P40.2 for Cycle, for random choices with few and long cycles.
func TestCycles(t *testing.T) {
	g := egraph.New()
	const classes = 14
	for id := range classes {
		if _, e := g.Add(api.Node{Op: api.OpConst, Width: 8, Val: uint64(id)}); e != api.OK {
			t.Fatal(e)
		}
	}
	r := rand.New(rand.NewPCG(40, 2))
	lengths := map[int]int{}
	several := 0
	for range 8000 {
		var l []api.Choice
		for id := range classes {
			args := []int{(id*5 + 1) % classes}
			if r.IntN(3) == 0 {
				args[0] = r.IntN(classes)
			}
			if r.IntN(4) == 0 {
				args = append(args, r.IntN(classes))
			}
			l = append(l, choose(id, api.OpAdd, args...))
		}
		roots := []int{r.IntN(classes), r.IntN(classes)}
		all := cycles(g, l, reachedFrom(g, l, roots))
		want := least(all)
		if got := selection.Cycle(g, roots, l); !slices.Equal(got, want) {
			t.Fatalf("Cycle of %v, %v: %v, not %v", roots, l, got, want)
		}
		lengths[len(want)]++
		for _, other := range all {
			if len(other) == len(want) && other[0] == want[0] && !slices.Equal(other, want) {
				several++
				break
			}
		}
	}
	for length := 1; length <= 6; length++ {
		if lengths[length] < 50 {
			t.Error(lengths)
		}
	}
	if several < 50 {
		t.Error(several)
	}
}

// checkReached checks P40.2 for Reached and Trim, and returns the reached classes.
func checkReached(t *testing.T, g *egraph.Graph, roots []int, l []api.Choice) []int {
	t.Helper()
	var classes []int
	for _, root := range roots {
		if class := g.Find(root); class >= 0 {
			classes = append(classes, class)
		}
	}
	want := reachedFrom(g, l, classes)
	if got := selection.Reached(g, roots, l); !slices.Equal(got, want) {
		t.Fatalf("%v, %v: %v, not %v in %v", roots, l, got, want, g.Dump())
	}
	var trimmed []api.Choice
	for _, class := range want {
		if n, ok := nodeOf(g, l, class); ok {
			trimmed = append(trimmed, api.Choice{Class: class, Node: n})
		}
	}
	if got := selection.Trim(g, roots, l); !sameChoices(got, trimmed) {
		t.Fatalf("%v, %v: %v, not %v in %v", roots, l, got, trimmed, g.Dump())
	}
	return want
}

// checkTrim checks that trimming changes no result (P40.5).
func checkTrim(t *testing.T, g *egraph.Graph, roots []int, l []api.Choice) {
	t.Helper()
	c := cost.Uniform()
	c[api.OpAdd] = 3
	trimmed := selection.Trim(g, roots, l)
	at, e := selection.Check(g, roots, l)
	if at2, e2 := selection.Check(g, roots, trimmed); at2 != at || e2 != e {
		t.Fatal(l, at, e, at2, e2)
	}
	n, e := selection.Cost(g, c, roots, l)
	if n2, e2 := selection.Cost(g, c, roots, trimmed); n2 != n || e2 != e {
		t.Fatal(l, n, e, n2, e2)
	}
	for _, root := range roots {
		u, e := selection.Term(g, l, root)
		if v, e2 := selection.Term(g, trimmed, root); e2 != e || !term.Same(u, v) {
			t.Fatal(l, u, e, v, e2)
		}
	}
}

// checkTerms checks P40.3 and P40.5 for a selection without errors.
func checkTerms(t *testing.T, g *egraph.Graph, roots []int, l []api.Choice) {
	t.Helper()
	c := cost.Uniform()
	c[api.OpAdd] = 3
	var terms []api.Term
	for _, root := range roots {
		u, e := selection.Term(g, l, root)
		if e == api.ErrLong {
			return
		}
		if e != api.OK || !represent.Has(g, root, u) {
			t.Fatalf("%v, %d: %v, %d in %v", l, root, u, e, g.Dump())
		}
		terms = append(terms, u)
		checkOf(t, g, root, u)
		if of, ok := selection.Of(g, u); !ok || !sameChoices(of, selection.Trim(g, []int{root}, l)) {
			t.Fatal(l, u, of, ok)
		}
	}
	if n, e := selection.Cost(g, c, roots, l); n != cost.Dag(c, terms...) || e != api.OK {
		t.Fatalf("%v, %v: %d, %d", roots, l, n, e)
	}
}

// checkOf checks P40.5 for Of: its result is a selection that gives the term. It returns whether there is one.
func checkOf(t *testing.T, g *egraph.Graph, root int, u api.Term) bool {
	t.Helper()
	l, ok := selection.Of(g, u)
	if !ok {
		return false
	}
	if at, e := selection.Check(g, []int{root}, l); at != 0 || e != api.OK {
		t.Fatal(u, l, at, e)
	}
	if v, e := selection.Term(g, l, root); e != api.OK || !term.Same(u, v) {
		t.Fatal(u, l, v, e)
	}
	if !sameChoices(l, selection.Trim(g, []int{root}, l)) {
		t.Fatal(u, l)
	}
	return true
}

// ofModel reports whether no two subterms of one class have different canonical nodes.
func ofModel(g *egraph.Graph, u api.Term) bool {
	nodes := map[int]api.Node{}
	for _, sub := range term.Subterms(u) {
		n := api.Node{Op: sub.Op, Width: sub.Width, Val: sub.Val, Name: sub.Name}
		for _, arg := range sub.Args {
			id, _ := represent.Find(g, arg)
			n.Args = append(n.Args, id)
		}
		class, _ := represent.Find(g, sub)
		if other, ok := nodes[class]; ok && !hashcons.Same(other, n) {
			return false
		}
		nodes[class] = n
	}
	return true
}

// TestTerms checks P40.4 and P40.5 for represented terms, and for the choices of the best ones.
func TestTerms(t *testing.T) {
	r := rand.New(rand.NewPCG(40, 4))
	found, none := 0, 0
	for range 300 {
		g := randomGraph(t, r)
		best, e := treebest.Run(g, cost.Uniform())
		if e != api.OK {
			t.Fatal(e)
		}
		for _, class := range g.Classes() {
			l, _ := represent.Terms(g, class, 7, 30)
			for _, u := range l {
				want := ofModel(g, u)
				if checkOf(t, g, class, u) != want {
					t.Fatal(u, want, g.Dump())
				}
				if want {
					found++
				} else {
					none++
				}
			}
			u, _ := best.Term(class)
			choices := best.Choices(class)
			if v, e := selection.Term(g, choices, class); e != api.OK || !term.Same(u, v) || !sameChoices(selection.Trim(g, []int{class}, choices), choices) {
				t.Fatal(u, v, e)
			}
		}
	}
	if found < 1000 || none < 1000 {
		t.Error(found, none)
	}
}
