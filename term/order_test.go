package term_test

import (
	"cmp"
	"math"
	"slices"
	"testing"

	"saturate/api"
	"saturate/term"
)

// wantCompare compares as P6.4 says.
func wantCompare(a, b api.Term) int {
	order := cmp.Or(cmp.Compare(term.Size(a), term.Size(b)), cmp.Compare(a.Op, b.Op), cmp.Compare(a.Width, b.Width), cmp.Compare(a.Val, b.Val), cmp.Compare(a.Name, b.Name))
	if order != 0 {
		return order
	}
	return slices.CompareFunc(a.Args, b.Args, wantCompare)
}

// TestCompare checks P6.4, and that Compare is a total order (P6.6).
func TestCompare(t *testing.T) {
	list := manyTerms()
	for i, a := range list {
		for k, b := range list {
			order := term.Compare(a, b)
			if order != wantCompare(a, b) || term.Same(a, b) != (i == k) || (order == 0) != (i == k) {
				t.Errorf("Compare of %v and %v is %d, Same is %v", a, b, order, term.Same(a, b))
			}
		}
	}
	slices.SortFunc(list, term.Compare)
	for i := range list {
		for k := range list {
			if term.Compare(list[i], list[k]) != cmp.Compare(i, k) {
				t.Errorf("no order: %v and %v", list[i], list[k])
			}
		}
	}
}

// TestCompareParts checks the order in which P6.4 compares the parts of terms.
func TestCompareParts(t *testing.T) {
	a, b := variable("a", 1), variable("b", 1)
	increasing := []api.Term{
		{Op: -5, Width: 9}, {Op: 1, Width: -7, Val: 9}, {Op: 1, Width: 2, Val: 1, Name: "b"}, {Op: 1, Width: 2, Val: 2}, {Op: 1, Width: 2, Val: 2, Name: "Z"}, {Op: 1, Width: 2, Val: 2, Name: "a"}, {Op: 1, Width: 2, Val: 2, Name: "a\x00"}, {Op: 1, Width: 2, Val: 2, Name: "aa"},
		{Op: 1, Width: 2, Val: 2, Name: "\xff"}, {Op: 1, Width: 2, Val: math.MaxUint64}, {Op: 1, Width: 3}, {Op: 2},
		node(1, 1, a), node(1, 1, b), node(2, 1, a), // all longer than the ones before
		node(-9, 1, a, a), node(-9, 1, a, b), node(-9, 1, b, a), node(3, 0, node(3, 0, a)),
		node(1, 1, a, a, a), node(1, 1, a, node(1, 1, a)), node(1, 1, node(1, 1, a), a),
		node(1, 1, node(1, 1, a), a, a), node(1, 1, node(1, 1, a), node(1, 1, a)), node(1, 1, node(1, 1, a, a), a), node(1, 1, node(1, 1, a, b), a), node(1, 1, node(1, 1, b, a), a),
	}
	for i := range increasing {
		for k := range increasing {
			if order := term.Compare(increasing[i], increasing[k]); order != cmp.Compare(i, k) {
				t.Errorf("Compare of terms %d and %d is %d", i, k, order)
			}
		}
	}
}

// TestSame checks P6.4 for each part of a term.
func TestSame(t *testing.T) {
	base := api.Term{Op: 3, Width: 4, Val: 5, Name: "n", Args: []api.Term{x, y}}
	for i, change := range []func(u *api.Term){
		func(u *api.Term) { u.Op++ }, func(u *api.Term) { u.Width++ }, func(u *api.Term) { u.Val++ }, func(u *api.Term) { u.Name = "m" }, func(u *api.Term) { u.Args = u.Args[:1] }, func(u *api.Term) { u.Args = nil },
		func(u *api.Term) { u.Args = append(u.Args, x) }, func(u *api.Term) { u.Args[0], u.Args[1] = u.Args[1], u.Args[0] }, func(u *api.Term) { u.Args[1].Args = []api.Term{{}} }, func(u *api.Term) { u.Args[1].Val = 1 },
	} {
		changed := base
		changed.Args = slices.Clone(base.Args)
		if !term.Same(base, changed) || term.Compare(base, changed) != 0 {
			t.Error("a copy is not the same")
		}
		change(&changed)
		if term.Same(base, changed) || term.Same(changed, base) || term.Compare(base, changed) == 0 || term.Compare(base, changed) != -term.Compare(changed, base) {
			t.Errorf("change %d is not seen", i)
		}
	}
	if !term.Same(api.Term{Op: 1}, api.Term{Op: 1, Args: []api.Term{}}) || term.Compare(api.Term{Op: 1, Args: []api.Term{}}, api.Term{Op: 1}) != 0 {
		t.Error("nil and empty operands")
	}
	if a, b := chain(60000), chain(60000); !term.Same(a, b) || term.Compare(a, b) != 0 || term.Compare(a, node(api.OpNot, 8, b)) != -1 {
		t.Error("deep terms")
	}
}

// TestAtPut checks P6.5: At and Put for all paths.
func TestAtPut(t *testing.T) {
	for _, u := range append(validTerms(), node(99, -1, node(98, 0, x), sum, api.Term{})) {
		for _, p := range paths(u) {
			if s, ok := term.At(u, p); !ok || !term.Same(s, follow(u, p)) {
				t.Fatalf("At(%v, %v) is %v, %v", u, p, s, ok)
			}
			for _, v := range []api.Term{sum, {}, node(99, -1, x)} {
				put, ok := term.Put(u, p, v)
				if !ok {
					t.Fatalf("Put(%v, %v)", u, p)
				}
				checkPut(t, u, p, v, put)
			}
		}
	}
	for _, p := range [][]int{{-1}, {2}, {0, 0}, {1, 0}, {math.MaxInt}, {math.MinInt}, {0, -1}, {0, 0, 0}, {2, 0}, {-1, 0}} {
		if s, ok := term.At(sum, p); ok || !term.Same(s, api.Term{}) {
			t.Errorf("At(sum, %v) is %v, %v", p, s, ok)
		}
		if s, ok := term.Put(sum, p, y); ok || !term.Same(s, api.Term{}) {
			t.Errorf("Put(sum, %v) is %v, %v", p, s, ok)
		}
	}
	if s, ok := term.At(sum, []int{}); !ok || !term.Same(s, sum) {
		t.Error("the empty path", s, ok)
	}
	if _, ok := term.At(x, []int{0}); ok {
		t.Error("a leaf has no operands")
	}
}

// checkPut checks the subterms of put, which is u with v at the path.
func checkPut(t *testing.T, u api.Term, path []int, v, put api.Term) {
	t.Helper()
	for _, p := range paths(u) {
		n := min(len(p), len(path))
		a, _ := term.At(u, p)
		b, ok := term.At(put, p)
		switch {
		case slices.Equal(p, path):
			if !ok || !term.Same(b, v) {
				t.Fatalf("Put(%v, %v) has %v there", u, path, b)
			}
		case slices.Equal(p, path[:n]): // above the path
			if !ok || a.Op != b.Op || a.Width != b.Width || a.Val != b.Val || a.Name != b.Name || len(a.Args) != len(b.Args) {
				t.Fatalf("Put(%v, %v) has %v at %v", u, path, b, p)
			}
		case !slices.Equal(p[:n], path[:n]):
			if !ok || !term.Same(a, b) {
				t.Fatalf("Put(%v, %v) has %v at %v", u, path, b, p)
			}
		}
	}
}

// spoil changes all memory that a term has.
func spoil(t api.Term) {
	for i := range t.Args {
		spoil(t.Args[i])
		t.Args[i] = api.Term{Op: -77}
	}
	_ = append(t.Args, api.Term{Op: -78})
}

// TestCopy checks P6.5: Copy.
func TestCopy(t *testing.T) {
	for _, u := range manyTerms() {
		c := term.Copy(u)
		if !term.Same(c, u) {
			t.Fatalf("Copy of %v is %v", u, c)
		}
	}
	original := node(api.OpMul, 8, sum, node(api.OpNot, 8, sum))
	original = term.Copy(original)
	spoil(term.Copy(original))
	if term.Check(original) != api.OK || !term.Same(original, node(api.OpMul, 8, sum, node(api.OpNot, 8, sum))) {
		t.Error("a copy shares memory", original)
	}
}

// TestMemory checks that results share memory neither with arguments nor with each other.
func TestMemory(t *testing.T) {
	fresh := func() api.Term { return node(api.OpMul, 8, term.Copy(sum), node(api.OpNot, 8, term.Copy(sum))) }
	argument := fresh()
	unchanged := func(name string) {
		t.Helper()
		if !term.Same(argument, fresh()) {
			t.Errorf("%s shares memory with its argument", name)
			argument = fresh()
		}
	}
	operands := []api.Term{argument, argument}
	made := term.Make(api.OpAdd, operands...)
	spoil(made.Args[0])
	if !term.Same(made.Args[1], fresh()) {
		t.Error("the operands of Make share memory")
	}
	spoil(made)
	unchanged("Make")
	if !term.Same(operands[0], fresh()) || !term.Same(operands[1], fresh()) {
		t.Error("Make keeps the slice of its operands")
	}
	s, _ := term.At(argument, []int{1})
	spoil(s)
	unchanged("At")
	for _, p := range paths(argument) {
		replacement := fresh()
		s, _ = term.Put(argument, p, replacement)
		spoil(s)
		unchanged("Put")
		if !term.Same(replacement, fresh()) {
			t.Error("Put shares memory with the replacement")
		}
	}
	for i := range term.Subterms(argument) {
		l := term.Subterms(argument)
		spoil(l[i])
		for k, s := range term.Subterms(argument) {
			if k != i && !term.Same(l[k], s) {
				t.Error("two results of Subterms share memory", i, k)
			}
		}
	}
	unchanged("Subterms")
}

// TestAllMemory checks that an iterator does not depend on what happens to its argument and to the terms that it has yielded.
func TestAllMemory(t *testing.T) {
	argument := node(api.OpMul, 8, term.Copy(sum), term.Copy(sum))
	places, whole := paths(argument), term.Copy(argument)
	all := term.All(argument)
	spoil(argument)
	for range 2 {
		n := 0
		for s := range all {
			if !term.Same(s, follow(whole, places[n])) {
				t.Fatalf("subterm %d is %v", n, s)
			}
			spoil(s)
			n++
		}
	}
}

// TestLaws checks P6.6.
func TestLaws(t *testing.T) {
	list := validTerms()
	for _, u := range list {
		for s := range term.All(u) {
			if term.Check(s) != api.OK {
				t.Errorf("%v in %v is not valid", s, u)
			}
		}
	}
	for _, u := range list[:60] {
		for _, p := range paths(u) {
			if len(p) > 8 {
				continue
			}
			s := follow(u, p)
			for _, v := range append(list[:25:25], api.Term{}, api.Term{Op: api.OpVar, Width: 8, Name: "x", Args: []api.Term{x}}) {
				put, _ := term.Put(u, p, v)
				if term.Compare(put, u) != term.Compare(v, s) {
					t.Fatalf("%v with %v at %v", u, v, p)
				}
			}
		}
	}
}

// TestDeepTerms checks that deep terms do not break a function.
func TestDeepTerms(t *testing.T) {
	deep := chain(60000)
	path := make([]int, 59999)
	if s, ok := term.At(deep, path); !ok || !term.Same(s, x) {
		t.Error("At", s, ok)
	}
	if s, ok := term.Put(deep, path, sum); !ok || term.Size(s) != 60002 {
		t.Error("Put", ok)
	}
	if _, ok := term.Put(deep, append(path, 0), sum); ok {
		t.Error("Put below the end")
	}
	if c := term.Copy(deep); !term.Same(c, deep) || term.Check(c) != api.ErrLong || len(term.Vars(c)) != 1 {
		t.Error("Copy")
	}
	if u := term.Make(api.OpNot, deep); term.Depth(u) != 60001 || u.Width != 8 {
		t.Error("Make")
	}
}

// TestShapeOf checks that ShapeOf tells roots apart by all parts and by the numbers of their operands.
func TestShapeOf(t *testing.T) {
	base := api.Term{Op: 3, Width: 4, Val: 5, Name: "n"}
	for i, c := range []struct {
		t        api.Term
		operands []int
	}{
		{api.Term{Op: 4, Width: 4, Val: 5, Name: "n"}, []int{1, 2}}, {api.Term{Op: 3, Width: 5, Val: 5, Name: "n"}, []int{1, 2}}, {api.Term{Op: 3, Width: 4, Val: 6, Name: "n"}, []int{1, 2}}, {api.Term{Op: 3, Width: 4, Val: 5, Name: "m"}, []int{1, 2}},
		{base, nil}, {base, []int{1}}, {base, []int{12}}, {base, []int{2, 1}}, {base, []int{1, 2, 2}}, {base, []int{1, 22}},
	} {
		if term.ShapeOf(c.t, c.operands) == term.ShapeOf(base, []int{1, 2}) {
			t.Errorf("case %d has the same shape", i)
		}
	}
	withArgs := base
	withArgs.Args = []api.Term{x, y}
	if term.ShapeOf(withArgs, []int{1, 2}) != term.ShapeOf(base, []int{1, 2}) {
		t.Error("the operands count by their numbers alone")
	}
}
