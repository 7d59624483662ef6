package idset_test

import (
	"math"
	"math/rand/v2"
	"slices"
	"testing"

	"saturate/idset"
)

// samples has slices that are sets, and others that are not sorted or have duplicates.
func samples() [][]int {
	list := [][]int{
		nil, {}, {0}, {7}, {-3}, {1, 2}, {2, 1}, {1, 1}, {1, 2, 3}, {3, 2, 1}, {3, 1, 3, -2}, {1, 2, 2, 3}, {1, 3, 2}, {2, 1, 3},
		{-5, -1, 0, 4}, {0, 0, 0}, {math.MinInt, 0, math.MaxInt}, {math.MaxInt, math.MinInt}, {math.MaxInt}, {math.MinInt},
	}
	random := rand.New(rand.NewPCG(3, 1))
	for length := range 12 {
		for range 3 {
			s := make([]int, length)
			for i := range s {
				s[i] = random.IntN(9) - 3
			}
			list = append(list, s)
		}
	}
	return list
}

// elements are looked for in the samples.
var elements = []int{math.MinInt, -4, -3, -2, -1, 0, 1, 2, 3, 4, 5, 6, 7, 8, math.MaxInt}

// set returns the numbers that occur in one of the lists and satisfy keep, as Of has to order them.
func set(keep func(x int) bool, lists ...[]int) []int {
	occurs := map[int]bool{}
	for _, l := range lists {
		for _, x := range l {
			if keep(x) {
				occurs[x] = true
			}
		}
	}
	var s []int
	for x := range occurs {
		s = append(s, x)
	}
	slices.Sort(s)
	return s
}

func all(int) bool { return true }

// arguments has copies of lists, with room behind them that functions must leave alone as well.
func arguments(lists ...[]int) (room, args [][]int) {
	for _, l := range lists {
		r := append(slices.Clone(l), 101, 102, 103)
		room = append(room, r)
		args = append(args, r[:len(l)])
	}
	return room, args
}

// checkResult checks a returned set, that arguments are unchanged, and that they share no memory with the set.
func checkResult(t *testing.T, name string, result, want []int, room, args [][]int) {
	t.Helper()
	if !slices.Equal(result, want) {
		t.Errorf("%s of %v is %v, not %v", name, args, result, want)
	}
	if !idset.Valid(result) {
		t.Errorf("%s of %v is not valid: %v", name, args, result)
	}
	before := make([][]int, len(room))
	for i, r := range room {
		before[i] = slices.Clone(r)
		if !slices.Equal(r[len(args[i]):], []int{101, 102, 103}) {
			t.Errorf("%s writes behind its argument", name)
		}
	}
	whole := result[:cap(result)]
	for i := range whole {
		whole[i]++
	}
	for i, r := range room {
		if !slices.Equal(r, before[i]) {
			t.Errorf("%s returns memory of its argument %v", name, args[i])
		}
	}
}

func checkUnchanged(t *testing.T, name string, args [][]int, originals ...[]int) {
	t.Helper()
	for i, a := range args {
		if !slices.Equal(a, originals[i]) {
			t.Errorf("%s changes its argument %v to %v", name, originals[i], a)
		}
	}
}

// TestOfValid checks P3.1.
func TestOfValid(t *testing.T) {
	for _, s := range samples() {
		room, args := arguments(s)
		result := idset.Of(args[0]...)
		checkUnchanged(t, "Of", args, s)
		checkResult(t, "Of", result, set(all, s), room, args)
		increasing := true
		for i := 1; i < len(s); i++ {
			increasing = increasing && s[i-1] < s[i]
		}
		if idset.Valid(s) != increasing {
			t.Errorf("Valid(%v)", s)
		}
	}
	if s := idset.Of(3, 1, 3); !slices.Equal(s, []int{1, 3}) || len(idset.Of()) != 0 {
		t.Error(s)
	}
	if !idset.Valid(nil) || !idset.Valid([]int{}) || idset.Valid([]int{1, 1}) || idset.Valid([]int{2, 1}) || idset.Valid([]int{1, 2, 0}) || idset.Valid([]int{1, 2, 2}) {
		t.Error("Valid")
	}
}

// TestElements checks P3.2.
func TestElements(t *testing.T) {
	for _, s := range samples() {
		for _, x := range elements {
			room, args := arguments(s)
			less := len(set(func(y int) bool { return y < x }, s))
			if idset.Has(args[0], x) != slices.Contains(s, x) || idset.Index(args[0], x) != less {
				t.Errorf("of %v and %d: %v, %d", s, x, idset.Has(s, x), idset.Index(s, x))
			}
			with := idset.Add(args[0], x)
			checkUnchanged(t, "Add", args, s)
			checkResult(t, "Add", with, set(all, s, []int{x}), room, args)
			without := idset.Remove(args[0], x)
			checkUnchanged(t, "Remove", args, s)
			checkResult(t, "Remove", without, set(func(y int) bool { return y != x }, s), room, args)
		}
	}
	if idset.Index([]int{1, 4, 6}, 5) != 2 || idset.Index([]int{4, 4, 1}, 5) != 2 || idset.Index(nil, 5) != 0 || idset.Has(nil, 0) {
		t.Error("examples")
	}
}

// TestSets checks P3.3.
func TestSets(t *testing.T) {
	for _, a := range samples() {
		for _, b := range samples() {
			inA := func(x int) bool { return slices.Contains(a, x) }
			inB := func(x int) bool { return slices.Contains(b, x) }
			for _, c := range []struct {
				name string
				f    func(a, b []int) []int
				keep func(x int) bool
			}{
				{"Union", idset.Union, all},
				{"Meet", idset.Meet, func(x int) bool { return inA(x) && inB(x) }},
				{"Minus", idset.Minus, func(x int) bool { return !inB(x) }},
			} {
				room, args := arguments(a, b)
				result := c.f(args[0], args[1])
				checkUnchanged(t, c.name, args, a, b)
				checkResult(t, c.name, result, set(c.keep, a, b), room, args)
			}
			_, args := arguments(a, b)
			subset := len(set(func(x int) bool { return !inB(x) }, a)) == 0
			if idset.Subset(args[0], args[1]) != subset {
				t.Errorf("Subset(%v, %v)", a, b)
			}
			if idset.Equal(args[0], args[1]) != slices.Equal(set(all, a), set(all, b)) {
				t.Errorf("Equal(%v, %v)", a, b)
			}
			checkUnchanged(t, "Subset or Equal", args, a, b)
		}
	}
	if !idset.Subset(nil, []int{}) || !idset.Equal([]int{}, nil) || idset.Subset([]int{1}, nil) || !idset.Equal([]int{2, 1}, []int{1, 2, 2}) {
		t.Error("empty sets")
	}
}

// TestLaws checks P3.5 for sets.
func TestLaws(t *testing.T) {
	list := samples()
	for i, a := range list {
		for j, b := range list {
			c := list[(3*i+5*j)%len(list)]
			equal := func(law string, x, y []int) {
				t.Helper()
				if !idset.Equal(x, y) {
					t.Errorf("%s: %v %v %v", law, a, b, c)
				}
			}
			equal("a + b = b + a", idset.Union(a, b), idset.Union(b, a))
			equal("a & b = b & a", idset.Meet(a, b), idset.Meet(b, a))
			equal("a + a = a", idset.Union(a, a), a)
			equal("a & a = a", idset.Meet(a, a), a)
			equal("a - a = 0", idset.Minus(a, a), nil)
			equal("a + (a & b) = a", idset.Union(a, idset.Meet(a, b)), a)
			equal("a & (a + b) = a", idset.Meet(a, idset.Union(a, b)), a)
			equal("(a - b) + (a & b) = a", idset.Union(idset.Minus(a, b), idset.Meet(a, b)), a)
			equal("(a + b) + c = a + (b + c)", idset.Union(idset.Union(a, b), c), idset.Union(a, idset.Union(b, c)))
			equal("(a & b) & c = a & (b & c)", idset.Meet(idset.Meet(a, b), c), idset.Meet(a, idset.Meet(b, c)))
			equal("a & (b + c) = (a & b) + (a & c)", idset.Meet(a, idset.Union(b, c)), idset.Union(idset.Meet(a, b), idset.Meet(a, c)))
			equal("a - (b + c) = (a - b) - c", idset.Minus(a, idset.Union(b, c)), idset.Minus(idset.Minus(a, b), c))
			if idset.Subset(a, b) != idset.Equal(idset.Union(a, b), b) {
				t.Errorf("subset: %v %v", a, b)
			}
		}
	}
}
