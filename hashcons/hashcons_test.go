package hashcons_test

import (
	"cmp"
	"math"
	"math/rand/v2"
	"slices"
	"testing"

	"saturate/api"
	"saturate/hashcons"
)

// increasing returns nodes in increasing order: op, width, value, name, the number of operands, and operands count in this order.
func increasing() []api.Node {
	return []api.Node{
		{Op: math.MinInt}, {Op: -1, Width: 9, Val: 9, Name: "z", Args: []int{9}}, {}, {Width: 1}, {Op: 1, Width: math.MinInt, Val: 7}, {Op: 1, Width: -1, Val: 7}, {Op: 1}, {Op: 1, Width: 2, Val: 0, Name: "b"}, {Op: 1, Width: 2, Val: 1},
		{Op: 1, Width: 2, Val: 1, Args: []int{5}}, {Op: 1, Width: 2, Val: 1, Name: "\x00"}, {Op: 1, Width: 2, Val: 1, Name: " "}, {Op: 1, Width: 2, Val: 1, Name: " 5"}, {Op: 1, Width: 2, Val: 1, Name: "1 5"}, {Op: 1, Width: 2, Val: 1, Name: "B"},
		{Op: 1, Width: 2, Val: 1, Name: "a"}, {Op: 1, Width: 2, Val: 1, Name: "a", Args: []int{math.MinInt}}, {Op: 1, Width: 2, Val: 1, Name: "a", Args: []int{-1}}, {Op: 1, Width: 2, Val: 1, Name: "a", Args: []int{0}},
		{Op: 1, Width: 2, Val: 1, Name: "a", Args: []int{9}}, {Op: 1, Width: 2, Val: 1, Name: "a", Args: []int{10}}, {Op: 1, Width: 2, Val: 1, Name: "a", Args: []int{123}}, {Op: 1, Width: 2, Val: 1, Name: "a", Args: []int{-1, 5}},
		{Op: 1, Width: 2, Val: 1, Name: "a", Args: []int{0, 9}}, {Op: 1, Width: 2, Val: 1, Name: "a", Args: []int{1, 0}}, {Op: 1, Width: 2, Val: 1, Name: "a", Args: []int{1, 23}}, {Op: 1, Width: 2, Val: 1, Name: "a", Args: []int{1, math.MaxInt}},
		{Op: 1, Width: 2, Val: 1, Name: "a", Args: []int{12, 3}}, {Op: 1, Width: 2, Val: 1, Name: "a", Args: []int{0, 0, 0}}, {Op: 1, Width: 2, Val: 1, Name: "a", Args: []int{1, 2, 2}}, {Op: 1, Width: 2, Val: 1, Name: "a", Args: []int{1, 2, 3}},
		{Op: 1, Width: 2, Val: 1, Name: "a 1"}, {Op: 1, Width: 2, Val: 1, Name: "aa"}, {Op: 1, Width: 2, Val: 1, Name: "b"}, {Op: 1, Width: 2, Val: 1, Name: "\xff"}, {Op: 1, Width: 2, Val: 11}, {Op: 1, Width: 2, Val: math.MaxInt64}, {Op: 1, Width: 2, Val: math.MaxInt64 + 1}, {Op: 1, Width: 2, Val: math.MaxUint64},
		{Op: 1, Width: 12, Val: 1}, {Op: 1, Width: math.MaxInt}, {Op: 2}, {Op: 11, Width: 2, Val: 1}, {Op: 12, Val: 1}, {Op: math.MaxInt},
	}
}

// deepCopy returns an equal node with its own memory.
func deepCopy(n api.Node) api.Node {
	n.Args = append([]int{}, n.Args...)
	return n
}

// TestCompare checks Compare, Same and Key of P16.1, and the order of P16.3.
func TestCompare(t *testing.T) {
	nodes := increasing()
	for i, a := range nodes {
		for k, b := range nodes {
			b = deepCopy(b)
			if order := hashcons.Compare(a, b); order != cmp.Compare(i, k) {
				t.Errorf("Compare of %v and %v is %d", a, b, order)
			}
			if hashcons.Same(a, b) != (i == k) || (hashcons.Key(a) == hashcons.Key(b)) != (i == k) {
				t.Errorf("Same or Key of %v and %v", a, b)
			}
		}
	}
}

// TestKey checks that Key tells different nodes apart, for many nodes whose parts look alike (P16.1).
func TestKey(t *testing.T) {
	numbers := []int{0, 1, 11, -1}
	names := []string{"", " ", "1", " 1", "1 ", "1 1", "-1", "\x00", "0", "0 0", ","}
	lists := [][]int{nil}
	for _, a := range numbers {
		lists = append(lists, []int{a})
		for _, b := range numbers {
			lists = append(lists, []int{a, b}, []int{a, b, 1}, []int{1, a, b})
		}
	}
	seen := map[string]api.Node{}
	for _, op := range numbers {
		for _, width := range numbers {
			for _, val := range []uint64{0, 1, 11, math.MaxUint64} {
				for _, name := range names {
					for _, args := range lists {
						n := api.Node{Op: api.Op(op), Width: width, Val: val, Name: name, Args: args}
						key := hashcons.Key(n)
						if other, ok := seen[key]; ok && hashcons.Compare(n, other) != 0 {
							t.Fatalf("%v and %v have the key %q", n, other, key)
						}
						seen[key] = n
						if hashcons.Key(deepCopy(n)) != key {
							t.Fatalf("%v has two keys", n)
						}
					}
				}
			}
		}
	}
}

// TestCanon checks P16.1: Canon.
func TestCanon(t *testing.T) {
	n := api.Node{Op: api.OpAdd, Width: 8, Val: 7, Name: "n", Args: []int{3, 4}}
	c := hashcons.Canon(n, func(id int) int {
		if id == 4 {
			return 1
		}
		return id
	})
	if want := (api.Node{Op: api.OpAdd, Width: 8, Val: 7, Name: "n", Args: []int{3, 1}}); !hashcons.Same(c, want) {
		t.Error(c)
	}
	var calls []int
	c = hashcons.Canon(api.Node{Args: []int{5, -2, 5, math.MaxInt}}, func(id int) int {
		calls = append(calls, id)
		return len(calls)
	})
	if !slices.Equal(calls, []int{5, -2, 5, math.MaxInt}) || !slices.Equal(c.Args, []int{1, 2, 3, 4}) {
		t.Error("the calls of find", calls, c.Args)
	}
	if !hashcons.Same(hashcons.Canon(n, nil), n) || !hashcons.Same(hashcons.Canon(api.Node{}, func(int) int { return 9 }), api.Node{}) {
		t.Error("without find, and without operands")
	}
}

// TestMemory checks that Copy and Canon of P16.1 return operands of their own.
func TestMemory(t *testing.T) {
	n := api.Node{Op: api.OpIte, Width: 8, Args: append(make([]int, 0, 9), 1, 2, 3)}
	want := deepCopy(n)
	for _, c := range []api.Node{hashcons.Copy(n), hashcons.Canon(n, nil), hashcons.Canon(n, func(id int) int { return id })} {
		if !hashcons.Same(c, want) {
			t.Error(c)
		}
		for i := range c.Args {
			c.Args[i] = 7
		}
		_ = append(c.Args, 8)
	}
	if !hashcons.Same(n, want) || n.Args[:4][3] != 0 {
		t.Error("an argument is changed", n)
	}
}

// checkTable compares a table with a model.
func checkTable(t *testing.T, h *hashcons.Table, nodes []api.Node, ids map[int]int) {
	t.Helper()
	var want []api.Node
	for i, n := range nodes {
		wantId, stored := ids[i]
		if stored {
			want = append(want, n)
		}
		if id, ok := h.Get(deepCopy(n)); id != wantId || ok != stored {
			t.Fatalf("Get of %v is %d, %v, not %d, %v", n, id, ok, wantId, stored)
		}
	}
	if h.Len() != len(want) || !slices.EqualFunc(h.Nodes(), want, hashcons.Same) {
		t.Fatalf("the table has %d nodes, %v, not %v", h.Len(), h.Nodes(), want)
	}
}

// TestTable checks P16.2 and P16.3 for sequences of operations; the nodes of the model are in increasing order.
func TestTable(t *testing.T) {
	nodes := increasing()
	for seed := range uint64(10) {
		r := rand.New(rand.NewPCG(seed, 16))
		h, ids := hashcons.New(), map[int]int{}
		checkTable(t, h, nodes, ids)
		for range 300 {
			i, id := r.IntN(len(nodes)), r.IntN(9)-2
			_, stored := ids[i]
			if r.IntN(2) == 0 {
				if h.Put(deepCopy(nodes[i]), id) == stored {
					t.Fatal("Put", nodes[i], stored)
				}
				if !stored {
					ids[i] = id
				}
			} else {
				if h.Del(deepCopy(nodes[i])) != stored {
					t.Fatal("Del", nodes[i], stored)
				}
				delete(ids, i)
			}
			checkTable(t, h, nodes, ids)
		}
	}
}

// TestTableExample checks the example of chapter 16.
func TestTableExample(t *testing.T) {
	h, n := hashcons.New(), api.Node{Op: api.OpAdd, Width: 8, Args: []int{1, 2}}
	if !h.Put(n, 7) || h.Put(deepCopy(n), 8) {
		t.Error("Put")
	}
	if id, ok := h.Get(n); id != 7 || !ok {
		t.Error(id, ok)
	}
	if !h.Del(n) || h.Del(n) {
		t.Error("Del")
	}
	if id, ok := h.Get(n); id != 0 || ok {
		t.Error(id, ok)
	}
	empty := api.Node{Op: api.OpVar, Args: []int{}}
	if !h.Put(empty, 3) || h.Put(api.Node{Op: api.OpVar}, 4) {
		t.Error("nil and empty operands")
	}
}

// TestTableMemory checks that a table shares no memory with arguments and results.
func TestTableMemory(t *testing.T) {
	h, n := hashcons.New(), api.Node{Op: api.OpAdd, Args: []int{1, 2}}
	h.Put(n, 7)
	n.Args[0] = 5
	h.Nodes()[0].Args[1] = 6
	if l := h.Nodes(); len(l) != 1 || !slices.Equal(l[0].Args, []int{1, 2}) {
		t.Error(l)
	}
	if id, ok := h.Get(api.Node{Op: api.OpAdd, Args: []int{1, 2}}); id != 7 || !ok {
		t.Error(id, ok)
	}
	if _, ok := h.Get(n); ok {
		t.Error("the table follows its argument")
	}
	other := hashcons.New()
	if other.Len() != 0 || !other.Put(n, 1) || h.Len() != 1 {
		t.Error("two tables depend on each other")
	}
}

// TestNoTable checks what the methods return for a table that New did not make.
func TestNoTable(t *testing.T) {
	made := hashcons.New()
	n := api.Node{Op: api.OpVar, Name: "x"}
	made.Put(n, 5)
	copied := *made
	for name, h := range map[string]*hashcons.Table{"nil": nil, "zero": {}, "copied": &copied} {
		for range 2 {
			if id, ok := h.Get(n); id != 0 || ok || h.Put(n, 1) || h.Put(api.Node{}, 1) || h.Del(n) || h.Len() != 0 || len(h.Nodes()) != 0 {
				t.Error(name)
			}
		}
	}
	if id, ok := made.Get(n); id != 5 || !ok || made.Len() != 1 {
		t.Error("the table is changed", id, ok)
	}
}
