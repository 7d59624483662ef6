package unionfind_test

import (
	"math"
	"math/rand/v2"
	"slices"
	"testing"

	"saturate/unionfind"
)

// model has for each element the least element of its set.
type model []int

// members returns the elements of the set with the given least element.
func (m model) members(least int) []int {
	var list []int
	for x, l := range m {
		if l == least {
			list = append(list, x)
		}
	}
	return list
}

// join returns the model in which the sets of two elements are joined.
func (m model) join(a, b int) model {
	joined := slices.Clone(m)
	for x, l := range m {
		if l == m[a] || l == m[b] {
			joined[x] = min(m[a], m[b])
		}
	}
	return joined
}

// check compares all results for sets with those of a model.
func check(t *testing.T, s *unionfind.Sets, m model, mark int) {
	t.Helper()
	if s.Len() != len(m) || s.Mark() != mark {
		t.Fatalf("%d elements and mark %d, not %d and %d", s.Len(), s.Mark(), len(m), mark)
	}
	var roots []int
	for x, least := range m {
		if s.Find(x) != least || !slices.Equal(s.Members(x), m.members(least)) {
			t.Fatalf("element %d: %d, %v, not %d, %v", x, s.Find(x), s.Members(x), least, m.members(least))
		}
		if x == least {
			roots = append(roots, x)
		}
		for y := range m {
			if s.Same(x, y) != (least == m[y]) {
				t.Fatalf("Same(%d, %d)", x, y)
			}
		}
	}
	if !slices.Equal(s.Roots(), roots) {
		t.Fatalf("the roots are %v, not %v", s.Roots(), roots)
	}
	for _, x := range []int{-1, len(m), len(m) + 1, math.MinInt, math.MaxInt} {
		if s.Find(x) != -1 || len(s.Members(x)) != 0 || s.Same(x, x) || s.Same(x, 0) || s.Same(0, x) {
			t.Fatalf("%d is not an element", x)
		}
	}
}

// TestExample checks the example of chapter 15.
func TestExample(t *testing.T) {
	s := unionfind.New()
	check(t, s, nil, 0)
	for i := range 3 {
		if x := s.Make(); x != i {
			t.Fatal(x)
		}
	}
	if r, ok := s.Union(2, 1); r != 1 || !ok || s.Find(2) != 1 {
		t.Error(r, ok, s.Find(2))
	}
	if !s.Undo(3) || s.Find(2) != 2 {
		t.Error(s.Find(2))
	}
}

// TestUnion checks P15.3.
func TestUnion(t *testing.T) {
	s := unionfind.New()
	for range 6 {
		s.Make()
	}
	for _, c := range []struct {
		a, b, want int
		ok         bool
	}{
		{5, 5, 5, false}, {4, 5, 4, true}, {5, 4, 4, false}, {3, 5, 3, true}, {5, 4, 3, false}, {0, 1, 0, true}, {1, 4, 0, true}, {3, 5, 0, false}, {0, 0, 0, false}, {2, 2, 2, false},
		{-1, 0, -1, false}, {0, -1, -1, false}, {6, 0, -1, false}, {0, 6, -1, false}, {-1, -1, -1, false}, {6, 6, -1, false}, {math.MinInt, math.MaxInt, -1, false},
	} {
		before := s.Mark()
		if r, ok := s.Union(c.a, c.b); r != c.want || ok != c.ok {
			t.Errorf("Union(%d, %d) is %d, %v, not %d, %v", c.a, c.b, r, ok, c.want, c.ok)
		}
		if c.ok && s.Mark() != before+1 || !c.ok && s.Mark() != before {
			t.Errorf("Union(%d, %d) changes the mark from %d to %d", c.a, c.b, before, s.Mark())
		}
	}
	check(t, s, model{0, 0, 2, 0, 0, 0}, 10)
}

// TestSequences checks P15.1 to P15.5 for long sequences of operations: history has the model for each mark.
func TestSequences(t *testing.T) {
	for seed := range uint64(40) {
		r := rand.New(rand.NewPCG(seed, 15))
		s := unionfind.New()
		history := []model{nil}
		for range 150 {
			m := history[len(history)-1]
			switch a, b := r.IntN(len(m)+2)-1, r.IntN(len(m)+2)-1; r.IntN(8) {
			case 0, 1, 2:
				if x := s.Make(); x != len(m) {
					t.Fatal("Make", x, len(m))
				}
				history = append(history, append(slices.Clone(m), len(m)))
			case 7:
				mark := r.IntN(len(history)+4) - 2
				if mark < len(history)-20 && r.IntN(4) > 0 {
					mark = len(history) - 1 - r.IntN(5)
				}
				ok := mark >= 0 && mark < len(history)
				if s.Undo(mark) != ok {
					t.Fatal("Undo", mark, len(history))
				}
				if ok {
					history = history[:mark+1]
				}
			default:
				history = checkUnion(t, s, history, a, b)
			}
			check(t, s, history[len(history)-1], len(history)-1)
		}
		for len(history) > 1 {
			history = history[:len(history)-1]
			if !s.Undo(len(history) - 1) {
				t.Fatal("Undo", len(history)-1)
			}
			check(t, s, history[len(history)-1], len(history)-1)
		}
	}
}

// checkUnion performs Union and returns the history with it.
func checkUnion(t *testing.T, s *unionfind.Sets, history []model, a, b int) []model {
	t.Helper()
	m := history[len(history)-1]
	want, wantOk := -1, false
	if a >= 0 && a < len(m) && b >= 0 && b < len(m) {
		want, wantOk = min(m[a], m[b]), m[a] != m[b]
	}
	if r, ok := s.Union(a, b); r != want || ok != wantOk {
		t.Fatalf("Union(%d, %d) is %d, %v, not %d, %v", a, b, r, ok, want, wantOk)
	}
	if wantOk {
		history = append(history, m.join(a, b))
	}
	return history
}

// TestUndo checks P15.4 for marks at and beyond the limits.
func TestUndo(t *testing.T) {
	s := unionfind.New()
	if !s.Undo(0) || s.Undo(1) || s.Undo(-1) {
		t.Error("without elements")
	}
	s.Make()
	s.Make()
	s.Union(0, 1)
	for _, mark := range []int{-1, 4, math.MinInt, math.MaxInt} {
		if s.Undo(mark) {
			t.Error("Undo", mark)
		}
		check(t, s, model{0, 0}, 3)
	}
	if !s.Undo(3) {
		t.Error("nothing to undo")
	}
	check(t, s, model{0, 0}, 3)
	if !s.Undo(2) {
		t.Error("a union")
	}
	check(t, s, model{0, 1}, 2)
	if x := s.Make(); x != 2 {
		t.Error("Make after Undo", x)
	}
	s.Union(2, 1)
	check(t, s, model{0, 1, 1}, 4)
	if !s.Undo(1) {
		t.Error("a union and elements")
	}
	check(t, s, model{0}, 1)
	if x := s.Make(); x != 1 {
		t.Error("Make after Undo", x)
	}
	check(t, s, model{0, 1}, 2)
}

// TestLargeSets checks that long chains of unions, in every order, do not take long.
func TestLargeSets(t *testing.T) {
	const n = 60000
	orders := map[string]func(i int) (int, int){
		"up":   func(i int) (int, int) { return i, i + 1 },
		"down": func(i int) (int, int) { return n - 2 - i, n - 1 - i },
		"star": func(i int) (int, int) { return n - 1, i },
	}
	for name, order := range orders {
		s := unionfind.New()
		for range n {
			s.Make()
		}
		for i := range n - 1 {
			a, b := order(i)
			if _, ok := s.Union(a, b); !ok {
				t.Fatal(name, i)
			}
		}
		for x := range n {
			if s.Find(x) != 0 {
				t.Fatal(name, x, s.Find(x))
			}
		}
		if l := s.Members(n / 2); len(l) != n || l[0] != 0 || l[n-1] != n-1 || !slices.IsSorted(l) || len(s.Roots()) != 1 {
			t.Error(name, len(l), len(s.Roots()))
		}
		if !s.Undo(n) || len(s.Roots()) != n {
			t.Error(name, "Undo")
		}
	}
}

// TestMemory checks that results share no memory with the object.
func TestMemory(t *testing.T) {
	s := unionfind.New()
	for range 4 {
		s.Make()
	}
	s.Union(1, 3)
	for _, l := range [][]int{s.Roots(), s.Members(3), s.Members(0)} {
		for i := range l {
			l[i] = 77
		}
		_ = append(l, 78)
	}
	other := unionfind.New()
	other.Make()
	check(t, s, model{0, 1, 2, 1}, 5)
	check(t, other, model{0}, 1)
}

// TestNoSets checks what the methods return for an object that New did not make, as chapter 15 says it for nil.
func TestNoSets(t *testing.T) {
	made := unionfind.New()
	made.Make()
	made.Make()
	copied := *made
	for name, s := range map[string]*unionfind.Sets{"nil": nil, "zero": {}, "copied": &copied} {
		for range 2 {
			if s.Make() != -1 || s.Find(0) != -1 || s.Find(-1) != -1 || s.Len() != 0 || s.Mark() != 0 {
				t.Error(name, "numbers")
			}
			if r, ok := s.Union(0, 0); r != 0 || ok {
				t.Error(name, "Union", r, ok)
			}
			if r, ok := s.Union(0, 1); r != 0 || ok {
				t.Error(name, "Union", r, ok)
			}
			if s.Same(0, 0) || s.Undo(0) || s.Undo(-1) || len(s.Roots()) != 0 || len(s.Members(0)) != 0 {
				t.Error(name, "others")
			}
		}
	}
	check(t, made, model{0, 1}, 2)
}
