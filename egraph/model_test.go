package egraph_test

import (
	"math/rand/v2"
	"slices"
	"testing"

	"saturate/api"
	"saturate/egraph"
	"saturate/forest"
	"saturate/hashcons"
	"saturate/opinfo"
	"saturate/term"
)

// model does what an e-graph does by trying everything. It does not choose the congruent links: those of the e-graph are
// checked and adopted.
type model struct {
	nodes, keys []api.Node
	least       []int // by id
	links       []api.Link
	dirty       bool
	marks       []*model
}

func (m *model) copy() *model {
	return &model{slices.Clone(m.nodes), slices.Clone(m.keys), slices.Clone(m.least), slices.Clone(m.links), m.dirty, slices.Clone(m.marks)}
}

func (m *model) has(id int) bool {
	return id >= 0 && id < len(m.nodes)
}

func (m *model) form(n api.Node) api.Node {
	var args []int
	for _, arg := range n.Args {
		args = append(args, m.least[arg])
	}
	n.Args = args
	return n
}

// join returns the least ids after a join.
func (m *model) join(a, b int) {
	x, y := m.least[a], m.least[b]
	for id, least := range m.least {
		if least == x || least == y {
			m.least[id] = min(x, y)
		}
	}
}

// check returns the error of Add, except ErrFull.
func (m *model) check(n api.Node) api.Errno {
	pattern := n.Op == api.OpHole || n.Op == api.OpNum || n.Op == api.OpEval
	if opinfo.Name(n.Op) == "" || pattern || len(n.Args) != opinfo.Arity(n.Op) || n.Name != "" && n.Op != api.OpVar || n.Val != 0 && n.Op != api.OpConst && n.Op != api.OpExtract {
		return api.ErrOp
	}
	if n.Op == api.OpVar && !term.Name(n.Name) {
		return api.ErrName
	}
	var widths []int
	for _, arg := range n.Args {
		if !m.has(arg) {
			return api.ErrRange
		}
		widths = append(widths, m.nodes[arg].Width)
	}
	if width, e := opinfo.Width(n.Op, n.Width, n.Val, widths); n.Width < 1 || e != api.OK || width != n.Width {
		return api.ErrWidth
	}
	for _, other := range m.nodes {
		if n.Op == api.OpVar && other.Op == api.OpVar && other.Name == n.Name && other.Width != n.Width {
			return api.ErrBind
		}
	}
	return api.OK
}

// add returns the result of Add, and the id of an earlier node with the key of the new one, or -1.
func (m *model) add(n api.Node) (int, int, api.Errno) {
	if e := m.check(n); e != api.OK {
		return 0, -1, e
	}
	if id := slices.IndexFunc(m.nodes, func(other api.Node) bool { return hashcons.Same(n, other) }); id >= 0 {
		return id, -1, api.OK
	}
	form, id := m.form(n), len(m.nodes)
	twin := slices.IndexFunc(m.keys, func(key api.Node) bool { return hashcons.Same(key, form) })
	m.nodes, m.keys, m.least = append(m.nodes, n), append(m.keys, form), append(m.least, id)
	if twin >= 0 {
		m.join(twin, id)
	}
	return id, twin, api.OK
}

func (m *model) union(a, b, why int) (bool, api.Errno) {
	switch {
	case why == api.WhyCongruent:
		return false, api.ErrArg
	case !m.has(a) || !m.has(b):
		return false, api.ErrRange
	case m.nodes[a].Width != m.nodes[b].Width:
		return false, api.ErrWidth
	case m.least[a] == m.least[b]:
		return false, api.OK
	}
	m.join(a, b)
	m.links = append(m.links, api.Link{A: a, B: b, Why: why})
	m.dirty = true
	return true, api.OK
}

func (m *model) rebuild() int {
	joins := 0
	for joined := true; joined; {
		joined = false
		for a := range m.nodes {
			for b := range a {
				if m.least[a] != m.least[b] && hashcons.Same(m.form(m.nodes[a]), m.form(m.nodes[b])) {
					m.join(a, b)
					joins++
					joined = true
				}
			}
		}
	}
	for id, n := range m.nodes {
		m.keys[id] = m.form(n)
	}
	m.dirty = false
	return joins
}

func (m *model) lookup(n api.Node) (int, bool) {
	if slices.ContainsFunc(n.Args, func(arg int) bool { return !m.has(arg) }) {
		return 0, false
	}
	form := m.form(n)
	for id, key := range m.keys {
		if hashcons.Same(key, form) {
			return m.least[id], true
		}
	}
	return 0, false
}

// adopt checks that the e-graph has added the given number of congruent links (P18.8), and adds them to the model.
func (m *model) adopt(t *testing.T, g *egraph.Graph, count int) {
	t.Helper()
	links := g.Links()
	if len(links) != len(m.links)+count || !slices.Equal(links[:len(m.links)], m.links) {
		t.Fatalf("the links are %v, not %v and %d more", links, m.links, count)
	}
	before := forest.New()
	for i, l := range links {
		if i >= len(m.links) {
			a, b := m.nodes[l.A], m.nodes[l.B]
			congruent := l.Why == api.WhyCongruent && a.Op == b.Op && a.Width == b.Width && a.Val == b.Val && a.Name == b.Name && slices.EqualFunc(a.Args, b.Args, before.Same)
			if !congruent || m.least[l.A] != m.least[l.B] {
				t.Fatalf("link %v joins %v and %v", l, a, b)
			}
		}
		if !before.Link(l.A, l.B, l.Why) {
			t.Fatalf("link %v joins connected ids", l)
		}
	}
	m.links = links
}

// compare compares all results for an e-graph with those of its model.
func (m *model) compare(t *testing.T, g *egraph.Graph) {
	t.Helper()
	var classes []int
	for id, least := range m.least {
		if id == least {
			classes = append(classes, id)
		}
	}
	if g.Len() != len(m.nodes) || g.Count() != len(classes) || !slices.Equal(g.Classes(), classes) || g.Dirty() != m.dirty {
		t.Fatalf("%d nodes, %d classes %v, dirty %v, not %d, %v, %v", g.Len(), g.Count(), g.Classes(), g.Dirty(), len(m.nodes), classes, m.dirty)
	}
	m.compareDump(t, g)
	f := forest.New()
	for _, l := range m.links {
		f.Link(l.A, l.B, l.Why)
	}
	for a := -1; a <= len(m.nodes); a++ {
		m.compareNode(t, g, a)
		for b := -1; b <= len(m.nodes); b++ {
			want, connected := f.Path(a, b)
			if path, ok := g.Path(a, b); ok != connected || !slices.Equal(path, want) {
				t.Fatalf("Path(%d, %d) is %v, %v, not %v, %v", a, b, path, ok, want, connected)
			}
			if same := m.has(a) && m.has(b) && m.least[a] == m.least[b]; g.Same(a, b) != same || same && !connected {
				t.Fatalf("Same(%d, %d) is not %v", a, b, same)
			}
		}
	}
}

func (m *model) compareDump(t *testing.T, g *egraph.Graph) {
	t.Helper()
	d := g.Dump()
	if !slices.EqualFunc(d.Nodes, m.nodes, hashcons.Same) || !slices.Equal(d.Links, m.links) || !slices.Equal(d.Roots, m.least) || !slices.Equal(g.Links(), m.links) {
		t.Fatalf("the dump is %v, not %v, %v, %v", d, m.nodes, m.links, m.least)
	}
}

// compareNode compares the results for an id, which need not be one.
func (m *model) compareNode(t *testing.T, g *egraph.Graph, id int) {
	t.Helper()
	var want api.Node
	var forms []api.Node
	var parents []int
	least, width := -1, -1
	if m.has(id) {
		want, least, width = m.nodes[id], m.least[id], m.nodes[id].Width
		for other, n := range m.nodes {
			if m.least[other] == least && !slices.ContainsFunc(forms, func(f api.Node) bool { return hashcons.Same(f, m.form(n)) }) {
				forms = append(forms, m.form(n))
			}
			if slices.ContainsFunc(n.Args, func(arg int) bool { return m.least[arg] == least }) {
				parents = append(parents, other)
			}
		}
		slices.SortFunc(forms, hashcons.Compare)
	}
	if n, ok := g.Node(id); !hashcons.Same(n, want) || ok != m.has(id) || g.Width(id) != width || g.Find(id) != least {
		t.Fatalf("id %d: %v, %v, width %d, class %d, not %v, %d, %d", id, n, ok, g.Width(id), g.Find(id), want, width, least)
	}
	if l := g.Nodes(id); !slices.EqualFunc(l, forms, hashcons.Same) {
		t.Fatalf("Nodes(%d) is %v, not %v", id, l, forms)
	}
	if l := g.Parents(id); !slices.Equal(l, parents) {
		t.Fatalf("Parents(%d) is %v, not %v", id, l, parents)
	}
}

// randomNode returns a node whose Args are mostly ids. Few of them are different, so that congruences are frequent.
func randomNode(r *rand.Rand, ids int) api.Node {
	arg := func() int { return r.IntN(ids+1) - r.IntN(8)/7 }
	wrong := func() int { return r.IntN(12) / 11 }
	switch r.IntN(10) {
	case 0, 1:
		return api.Node{Op: api.OpVar, Width: 2 - wrong(), Name: []string{"a", "b", "c", "d", "e", ""}[r.IntN(5)+wrong()]}
	case 2:
		return api.Node{Op: api.OpConst, Width: 2 - wrong(), Val: r.Uint64N(4)}
	case 3:
		return api.Node{Op: api.OpEq, Width: 1 + wrong(), Args: []int{arg(), arg()}}
	case 4:
		return api.Node{Op: api.OpIte, Width: 2, Args: []int{arg(), arg(), arg()}}
	case 5:
		return api.Node{Op: api.OpExtract, Width: 2, Val: r.Uint64N(2), Args: []int{arg()}}
	case 6:
		return api.Node{Op: []api.Op{api.OpVar, api.OpNot, api.OpEval, 99}[r.IntN(4)], Width: 2, Val: uint64(wrong()), Args: []int{arg()}}
	case 7:
		return api.Node{Op: api.OpAdd, Width: 2, Args: []int{arg(), arg()}}
	}
	return api.Node{Op: api.OpNot, Width: 2 - wrong(), Args: []int{arg()}}
}

// step performs a random operation on an e-graph and its model, and returns the model of the result.
func step(t *testing.T, r *rand.Rand, g *egraph.Graph, m *model) *model {
	ids := len(m.nodes)
	switch k := r.IntN(24); {
	case k < 3 && ids > 0:
		a, b, why := r.IntN(ids+1)-r.IntN(12)/11, r.IntN(ids+1), r.IntN(5)-3
		want, wantError := m.union(a, b, why)
		if ok, e := g.Union(a, b, why); ok != want || e != wantError {
			t.Fatalf("Union(%d, %d, %d) is %v, %d, not %v, %d", a, b, why, ok, e, want, wantError)
		}
		m.adopt(t, g, 0)
	case k == 3:
		want := m.rebuild()
		if n := g.Rebuild(); n != want {
			t.Fatalf("Rebuild is %d, not %d", n, want)
		}
		m.adopt(t, g, want)
	case k == 4:
		m.marks = append(m.marks, m.copy())
		if n := g.Mark(); n != len(m.marks)-1 {
			t.Fatalf("Mark is %d after %d others", n, len(m.marks)-1)
		}
	case k == 5:
		n := r.IntN(len(m.marks)+2) - 1
		ok := n >= 0 && n < len(m.marks)
		if g.Undo(n) != ok {
			t.Fatalf("Undo(%d) of %d", n, len(m.marks))
		}
		if ok {
			return m.marks[n]
		}
	default:
		n := randomNode(r, ids)
		wantFound, wantOk := m.lookup(n)
		if id, ok := g.Lookup(n); id != wantFound || ok != wantOk {
			t.Fatalf("Lookup of %v is %d, %v, not %d, %v", n, id, ok, wantFound, wantOk)
		}
		want, twin, wantError := m.add(n)
		if id, e := g.Add(n); id != want || e != wantError {
			t.Fatalf("Add of %v is %d, %d, not %d, %d", n, id, e, want, wantError)
		}
		m.adopt(t, g, min(twin+1, 1))
	}
	return m
}

// TestSequences checks P18.1 to P18.8 for sequences of operations.
func TestSequences(t *testing.T) {
	for seed := range uint64(60) {
		r := rand.New(rand.NewPCG(seed, 18))
		g, m := egraph.New(), &model{}
		m.compare(t, g)
		for range 120 {
			m = step(t, r, g, m)
			m.compare(t, g)
		}
	}
}
