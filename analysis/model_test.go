package analysis_test

import (
	"math/rand/v2"
	"slices"
	"strconv"
	"testing"

	"saturate/analysis"
	"saturate/api"
	"saturate/egraph"
	"saturate/eval"
	"saturate/facts"
	"saturate/opinfo"
	"saturate/snapshot"
)

// assignments is the number of assignments of the variables x and y of width 3.
const assignments = 64

// world is an e-graph, with the values of each node under all assignments.
type world struct {
	g      *egraph.Graph
	values [][assignments]uint64
}

// add adds a random node, if it is valid.
func (w *world) add(r *rand.Rand) {
	n := api.Node{Op: api.Op(1 + r.IntN(23)), Width: []int{1, 3, 3, 3, 6}[r.IntN(5)]}
	switch n.Op {
	case api.OpVar:
		n.Name = []string{"x", "y"}[r.IntN(2)]
		n.Width = 3
	case api.OpConst:
		n.Val = r.Uint64N(1 << n.Width)
	case api.OpExtract:
		n.Val = r.Uint64N(4)
	}
	var widths []int
	for range opinfo.Arity(n.Op) {
		if w.g.Len() == 0 {
			return
		}
		id := r.IntN(w.g.Len())
		n.Args = append(n.Args, id)
		widths = append(widths, w.g.Width(id))
	}
	if width, e := opinfo.Width(n.Op, n.Width, n.Val, widths); e == api.OK {
		n.Width = width
	}
	id, e := w.g.Add(n)
	if e != api.OK || id < len(w.values) {
		return
	}
	var values [assignments]uint64
	for k := range values {
		var args []api.Word
		for i, arg := range n.Args {
			args = append(args, api.Word{Width: widths[i], Val: w.values[arg][k]})
		}
		switch n.Name {
		case "x":
			values[k] = uint64(k) & 7
		case "y":
			values[k] = uint64(k) >> 3
		default:
			values[k], _ = eval.Apply(n.Op, n.Width, n.Val, args)
		}
	}
	w.values = append(w.values, values)
}

// randomWorld returns a rebuilt e-graph. If it is sound, only classes with the same values are joined.
func randomWorld(r *rand.Rand, sound bool) *world {
	w := &world{g: egraph.New()}
	for range 15 + r.IntN(40) {
		w.add(r)
	}
	for a := range w.g.Len() {
		for b := range a {
			alike := w.values[a] == w.values[b]
			if w.g.Width(a) == w.g.Width(b) && (sound && alike && r.IntN(3) > 0 || !sound && r.IntN(100) == 0) {
				w.g.Union(a, b, api.WhyGiven)
			}
		}
	}
	w.g.Rebuild()
	return w
}

// naive does what P20.1 describes. It returns the facts of the classes, the number of rounds that changed some, and whether there is no conflict.
func naive(g *egraph.Graph, rounds int) (map[int]api.Facts, int, bool) {
	now := map[int]api.Facts{}
	for _, class := range g.Classes() {
		now[class] = facts.Top(g.Width(class))
	}
	for k := range min(rounds, api.MaxRounds) {
		next, changes := map[int]api.Facts{}, false
		for _, class := range g.Classes() {
			next[class] = now[class]
			for _, n := range g.Nodes(class) {
				var args []api.Facts
				for _, arg := range n.Args {
					args = append(args, now[arg])
				}
				f, _ := facts.Apply(n.Op, n.Width, n.Val, args)
				both, ok := facts.Meet(next[class], f)
				if !ok {
					return nil, 0, false
				}
				next[class] = both
			}
			changes = changes || next[class] != now[class]
		}
		if !changes {
			return now, k, true
		}
		now = next
	}
	return now, max(rounds, 0), true
}

// compare compares a table with the naive results. It reports whether there is one.
func compare(t *testing.T, g *egraph.Graph, rounds int) bool {
	t.Helper()
	want, count, ok := naive(g, rounds)
	a, e := analysis.Rounds(g, rounds)
	if !ok {
		if a != nil || e != api.ErrConflict {
			t.Fatalf("Rounds is %v, %d instead of a conflict in %v", a, e, g.Dump())
		}
		return false
	}
	if e != api.OK || a.Rounds() != count {
		t.Fatalf("Rounds(%d) is %d, %d, not %d in %v", rounds, a.Rounds(), e, count, g.Dump())
	}
	for id := range g.Len() {
		if f, ok := a.Of(id); !ok || f != want[g.Find(id)] {
			t.Fatalf("the facts of %d are %v, %v, not %v in %v", id, f, ok, want[g.Find(id)], g.Dump())
		}
	}
	var single []api.Bind
	for _, class := range g.Classes() {
		if val, ok := facts.Single(want[class]); ok {
			single = append(single, api.Bind{Name: strconv.Itoa(class), Val: val})
		}
	}
	if l := a.Single(); !slices.Equal(l, single) {
		t.Fatalf("Single is %v, not %v", l, single)
	}
	return true
}

// TestDefinition checks P20.1 and P20.2 for e-graphs of which many have conflicts.
func TestDefinition(t *testing.T) {
	r := rand.New(rand.NewPCG(20, 1))
	conflicts := 0
	for range 400 {
		w := randomWorld(r, r.IntN(3) == 0)
		for rounds := range 6 {
			if !compare(t, w.g, rounds) {
				conflicts++
			}
		}
		compare(t, w.g, api.MaxRounds)
	}
	if conflicts < 50 {
		t.Error("there were only", conflicts, "conflicts")
	}
}

// TestSound checks P20.4: what holds for all nodes of a class under an assignment is not excluded, and rounds only add to it.
func TestSound(t *testing.T) {
	r := rand.New(rand.NewPCG(20, 2))
	known := 0
	for range 300 {
		w := randomWorld(r, true)
		var before *analysis.Table
		for rounds := range 8 {
			a, e := analysis.Rounds(w.g, rounds)
			if e != api.OK {
				t.Fatalf("Rounds is %d", e)
			}
			for id, values := range w.values {
				f, _ := a.Of(id)
				for _, val := range values {
					if !facts.Has(f, val) {
						t.Fatalf("%v excludes the value %d of %d in %v", f, val, id, w.g.Dump())
					}
				}
				if earlier, ok := before.Of(id); ok && !facts.Leq(f, earlier) {
					t.Fatalf("%v is not contained in %v", f, earlier)
				}
			}
			known += len(a.Single())
			before = a
		}
	}
	if known < 1000 {
		t.Error("there were only", known, "single values")
	}
}

// naiveModify does what P20.3 describes.
func naiveModify(g *egraph.Graph) (int, api.Errno) {
	links := 0
	for {
		table, _, ok := naive(g, api.MaxRounds)
		if !ok {
			return 0, api.ErrConflict
		}
		before := links
		for _, class := range g.Classes() {
			f, ok := table[class]
			val, single := facts.Single(f)
			has := func(n api.Node) bool { return n.Op == api.OpConst && n.Val == val }
			if !ok || !single || slices.ContainsFunc(g.Nodes(class), has) {
				continue
			}
			id, e := g.Add(api.Node{Op: api.OpConst, Width: f.Width, Val: val})
			if e != api.OK {
				return 0, e
			}
			if joined, _ := g.Union(class, id, api.WhyFacts); joined {
				links++
			}
		}
		if links == before {
			return links, api.OK
		}
		g.Rebuild()
	}
}

// TestModifyDefinition checks P20.3 for e-graphs of which many have conflicts.
func TestModifyDefinition(t *testing.T) {
	r := rand.New(rand.NewPCG(20, 4))
	counts := map[api.Errno]int{}
	for range 600 {
		d := randomWorld(r, r.IntN(3) == 0).g.Dump()
		g, _ := egraph.Restore(d)
		h, _ := egraph.Restore(d)
		n, e := analysis.Modify(g)
		if want, wantError := naiveModify(h); n != want || e != wantError || !snapshot.Same(g.Dump(), h.Dump()) {
			t.Fatalf("Modify of %v is %d, %d, not %d, %d", d, n, e, want, wantError)
		}
		counts[e]++
	}
	if counts[api.ErrConflict] < 50 || counts[api.OK] < 50 {
		t.Error(counts)
	}
}

// TestModifySound checks P20.3 and P20.4: the consts have the values of their classes, and nothing is left to do.
func TestModifySound(t *testing.T) {
	r := rand.New(rand.NewPCG(20, 3))
	added := 0
	for range 300 {
		w := randomWorld(r, true)
		links := len(w.g.Links())
		n, e := analysis.Modify(w.g)
		if e != api.OK || w.g.Dirty() {
			t.Fatal(n, e)
		}
		count := 0
		for _, l := range w.g.Links()[links:] {
			if l.Why != api.WhyFacts {
				continue
			}
			count++
			c, _ := w.g.Node(l.B)
			if c.Op != api.OpConst || c.Width != w.g.Width(l.A) || l.A < len(w.values) && slices.ContainsFunc(w.values[l.A][:], func(val uint64) bool { return val != c.Val }) {
				t.Fatalf("link %v to %v in %v", l, c, w.g.Dump())
			}
		}
		a, _ := analysis.Run(w.g)
		for _, b := range a.Single() {
			class, _ := strconv.Atoi(b.Name)
			if id, ok := w.g.Lookup(api.Node{Op: api.OpConst, Width: w.g.Width(class), Val: b.Val}); !ok || id != class {
				t.Fatalf("class %d does not contain %d", class, b.Val)
			}
		}
		if again, e := analysis.Modify(w.g); again != 0 || e != api.OK || count != n {
			t.Fatal(again, e, count, n)
		}
		added += n
	}
	if added < 200 {
		t.Error("there were only", added, "links")
	}
}
