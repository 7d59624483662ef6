package forest_test

import (
	"math"
	"math/rand/v2"
	"slices"
	"testing"

	"saturate/api"
	"saturate/forest"
)

// model is a list of links, in which paths are found by trying all ways.
type model []api.Link

// path returns the links from a to b without those that lead back to an id.
func (m model) path(a, b, before int) ([]api.Link, bool) {
	if a == b {
		return nil, true
	}
	for _, l := range m {
		if l.B == a {
			l.A, l.B = l.B, l.A
		}
		if l.A != a || l.B == before {
			continue
		}
		if rest, ok := m.path(l.B, b, a); ok {
			return append([]api.Link{l}, rest...), true
		}
	}
	return nil, false
}

// ids are the ids of the random tests: near ones and great ones.
var ids = []int{0, 1, 2, 3, 4, 5, 6, 7, 8, 9, 1000, 65535, 65536, 1 << 40, math.MaxInt - 1, math.MaxInt}

// check compares all results for a forest with those of a model.
func check(t *testing.T, f *forest.Forest, m model) {
	t.Helper()
	if f.Len() != len(m) || !slices.Equal(f.Links(), m) {
		t.Fatalf("%d links %v, not %v", f.Len(), f.Links(), m)
	}
	for _, a := range ids {
		for _, b := range ids {
			want, connected := m.path(a, b, -1)
			if f.Same(a, b) != connected {
				t.Fatalf("Same(%d, %d) after %v", a, b, m)
			}
			if path, ok := f.Path(a, b); ok != connected || !slices.Equal(path, want) {
				t.Fatalf("Path(%d, %d) after %v is %v, %v, not %v", a, b, m, path, ok, want)
			}
		}
	}
}

// TestSequences checks P17.1 to P17.4 for sequences of operations.
func TestSequences(t *testing.T) {
	for seed := range uint64(30) {
		r := rand.New(rand.NewPCG(seed, 17))
		f := forest.New()
		var m model
		for range 60 {
			a, b, why := ids[r.IntN(len(ids))], ids[r.IntN(len(ids))], r.IntN(9)-4
			if r.IntN(12) == 0 {
				n := r.IntN(len(m)+3) - 1
				ok := n >= 0 && n <= len(m)
				if f.Undo(n) != ok {
					t.Fatalf("Undo(%d) of %d links", n, len(m))
				}
				if ok {
					m = m[:n]
				}
			} else {
				_, connected := m.path(a, b, -1)
				if f.Link(a, b, why) == connected {
					t.Fatalf("Link(%d, %d) after %v", a, b, m)
				}
				if !connected {
					m = append(slices.Clone(m), api.Link{A: a, B: b, Why: why})
				}
			}
			check(t, f, m)
		}
	}
}

// TestExamples checks the examples of chapter 17.
func TestExamples(t *testing.T) {
	f := forest.New()
	if !f.Same(5, 5) || f.Same(-1, -1) || f.Same(1, 3) || f.Len() != 0 || len(f.Links()) != 0 {
		t.Error("an empty forest")
	}
	if !f.Link(1, 2, 7) || !f.Link(3, 2, 8) || f.Link(1, 3, 9) {
		t.Error("Link")
	}
	if p, ok := f.Path(1, 3); !ok || !slices.Equal(p, []api.Link{{A: 1, B: 2, Why: 7}, {A: 2, B: 3, Why: 8}}) {
		t.Error(p, ok)
	}
	if p, ok := f.Path(3, 1); !ok || !slices.Equal(p, []api.Link{{A: 3, B: 2, Why: 8}, {A: 2, B: 1, Why: 7}}) {
		t.Error(p, ok)
	}
	if l := f.Links(); !slices.Equal(l, []api.Link{{A: 1, B: 2, Why: 7}, {A: 3, B: 2, Why: 8}}) {
		t.Error(l)
	}
}

// TestLink checks the calls of Link that change nothing (P17.1), and negative ids for Same and Path (P17.2).
func TestLink(t *testing.T) {
	f := forest.New()
	if !f.Link(0, math.MaxInt, math.MinInt) || !f.Link(4, 0, -1) {
		t.Fatal("Link")
	}
	for _, c := range [][2]int{{-1, 0}, {0, -1}, {-1, -1}, {-1, -2}, {math.MinInt, 3}, {3, math.MinInt}, {0, 0}, {7, 7}, {0, 4}, {4, math.MaxInt}} {
		if f.Link(c[0], c[1], 5) || f.Len() != 2 {
			t.Errorf("Link(%d, %d) adds a link", c[0], c[1])
		}
	}
	for _, c := range [][2]int{{-1, -1}, {-1, 0}, {0, -1}, {math.MinInt, math.MinInt}, {0, 1}, {1, 2}} {
		if p, ok := f.Path(c[0], c[1]); ok || len(p) != 0 || f.Same(c[0], c[1]) {
			t.Errorf("Path(%d, %d) is %v, %v", c[0], c[1], p, ok)
		}
	}
	for _, id := range []int{0, 4, 5, math.MaxInt} {
		if p, ok := f.Path(id, id); !ok || len(p) != 0 || !f.Same(id, id) {
			t.Errorf("Path(%d, %d) is %v, %v", id, id, p, ok)
		}
	}
	if p, ok := f.Path(4, math.MaxInt); !ok || !slices.Equal(p, []api.Link{{A: 4, B: 0, Why: -1}, {A: 0, B: math.MaxInt, Why: math.MinInt}}) {
		t.Error(p, ok)
	}
}

// TestUndo checks P17.3.
func TestUndo(t *testing.T) {
	f := forest.New()
	for i := range 4 {
		f.Link(i, i+1, i)
	}
	for _, n := range []int{-1, 5, math.MinInt, math.MaxInt} {
		if f.Undo(n) || f.Len() != 4 || !f.Same(0, 4) {
			t.Errorf("Undo(%d)", n)
		}
	}
	if !f.Undo(4) || f.Len() != 4 || !f.Undo(2) || f.Len() != 2 || !f.Same(0, 2) || f.Same(2, 3) || f.Same(0, 4) || f.Undo(3) {
		t.Error("Undo(2)")
	}
	if !f.Link(4, 1, 9) || !f.Same(4, 0) {
		t.Error("a new link")
	}
	if p, ok := f.Path(2, 4); !ok || !slices.Equal(p, []api.Link{{A: 2, B: 1, Why: 1}, {A: 1, B: 4, Why: 9}}) {
		t.Error(p, ok)
	}
	if !f.Undo(0) || f.Len() != 0 || f.Same(0, 1) || !f.Undo(0) || len(f.Links()) != 0 {
		t.Error("Undo(0)")
	}
}

// TestMemory checks that a caller may change results.
func TestMemory(t *testing.T) {
	f := forest.New()
	f.Link(1, 2, 3)
	f.Link(2, 4, 5)
	f.Links()[0].A = 9
	p, _ := f.Path(1, 4)
	p[0], p[1] = api.Link{}, api.Link{}
	if p, _ = f.Path(1, 4); !slices.Equal(p, f.Links()) || p[0] != (api.Link{A: 1, B: 2, Why: 3}) {
		t.Error(p, f.Links())
	}
}

// TestNoForest checks the methods of a nil Forest, and of those that New did not make.
func TestNoForest(t *testing.T) {
	made := forest.New()
	made.Link(0, 1, 1)
	copied := *made
	for i, f := range []*forest.Forest{nil, {}, &copied} {
		p, ok := f.Path(0, 0)
		if f.Link(0, 1, 1) || f.Link(5, 6, 1) || f.Same(0, 0) || f.Same(0, 1) || ok || len(p) != 0 || len(f.Links()) != 0 || f.Len() != 0 || f.Undo(0) {
			t.Errorf("forest %d", i)
		}
	}
	if made.Len() != 1 || made.Same(5, 6) {
		t.Error("the copy changes its original")
	}
}

// TestManyLinks checks long chains and stars, which must not take long.
func TestManyLinks(t *testing.T) {
	const n = 60000
	f := forest.New()
	for i := range n {
		if !f.Link(i, i+1, i) {
			t.Fatal(i)
		}
	}
	for i := range n {
		if !f.Link(2*n, 3*n+i, i) {
			t.Fatal(i)
		}
	}
	f.Link(2*n, n/2, -9)
	p, ok := f.Path(n, 0)
	if !ok || len(p) != n || p[0] != (api.Link{A: n, B: n - 1, Why: n - 1}) || p[n-1] != (api.Link{A: 1, B: 0, Why: 0}) {
		t.Fatal(len(p), ok)
	}
	for i := range n {
		if p, ok = f.Path(i, i+1); !ok || len(p) != 1 || p[0] != (api.Link{A: i, B: i + 1, Why: i}) {
			t.Fatal(i, p, ok)
		}
		if p, ok = f.Path(3*n+i, 3*n+(i+1)%n); !ok || len(p) != 2 || p[0].Why != i {
			t.Fatal(i, p, ok)
		}
	}
	if !f.Undo(n) || !f.Same(0, n) || f.Same(2*n, 3*n) || !f.Undo(n/2) || f.Same(0, n) || !f.Same(0, n/2) {
		t.Error("Undo")
	}
	for i := n - 1; i >= n/2; i-- {
		if !f.Link(i+1, i, -i) {
			t.Fatal(i)
		}
	}
	if p, ok = f.Path(n/2-1, n/2+1); !ok || !slices.Equal(p, []api.Link{{A: n/2 - 1, B: n / 2, Why: n/2 - 1}, {A: n / 2, B: n/2 + 1, Why: -n / 2}}) {
		t.Error(p, ok)
	}
}
