package encode_test

import (
	"math"
	"slices"
	"testing"

	"saturate/api"
	"saturate/cost"
	"saturate/egraph"
	"saturate/encode"
)

// TestRead checks P42.2 for Read.
func TestRead(t *testing.T) {
	g := sample(t)
	vars, _ := encode.Vars(g, []int{6})
	yes, no := true, false
	for i, x := range []struct {
		x    []bool
		want []int // indices of variables
	}{
		{nil, nil}, {make([]bool, 7), nil}, {[]bool{yes}, []int{0}}, {[]bool{yes, yes}, []int{0}}, {[]bool{no, yes}, []int{1}}, {[]bool{no, no, yes, yes, yes, yes, yes}, []int{2, 3, 5, 6}}, {[]bool{yes, no, yes, no, yes, no, yes}, []int{0, 2, 4, 6}}, {[]bool{yes, yes, yes, yes, yes, yes, yes, yes, yes}, []int{0, 2, 3, 5, 6}}, {[]bool{no, no, no, no, no, no, no, yes}, nil},
	} {
		var want []api.Choice
		for _, k := range x.want {
			want = append(want, vars[k])
		}
		if got := encode.Read(vars, x.x); !sameChoices(got, want) {
			t.Errorf("case %d: %v, not %v", i, got, want)
		}
	}
	// The variables may be any choices: their classes are those of the result.
	odd := []api.Choice{leaf(9, "a"), leaf(-4, "b"), leaf(9, "c"), leaf(math.MaxInt, "d"), leaf(-4, "e"), choose(2, 77, -1)}
	if got := encode.Read(odd, []bool{no, yes, yes, yes, yes, yes}); !sameChoices(got, []api.Choice{odd[1], odd[5], odd[2], odd[3]}) {
		t.Error(got)
	}
	if got := encode.Read(nil, []bool{yes}); len(got) != 0 {
		t.Error(got)
	}
}

// TestWrite checks P42.2 for Write.
func TestWrite(t *testing.T) {
	g := sample(t)
	vars, _ := encode.Vars(g, []int{6})
	for i, x := range []struct {
		l    []api.Choice
		want []int // indices of the variables that are selected
	}{
		{nil, nil}, {vars, []int{0, 2, 3, 5, 6}}, {vars[1:], []int{1, 2, 3, 5, 6}}, {[]api.Choice{vars[4], vars[3]}, []int{4}},
		// Classes are compared by Find, nodes as they are.
		{[]api.Choice{leaf(3, "x")}, []int{0}}, {[]api.Choice{choose(3, api.OpSub, 2, 1), leaf(0, "x")}, []int{1}}, {[]api.Choice{choose(5, api.OpNeg, 4)}, []int{3}}, {[]api.Choice{choose(0, api.OpSub, 5, 1)}, nil}, {[]api.Choice{choose(0, api.OpSub, 5, 1), leaf(0, "x")}, nil}, {[]api.Choice{leaf(1, "x")}, nil}, {[]api.Choice{leaf(0, "y")}, nil}, {[]api.Choice{choose(2, api.OpNeg, 4, 4)}, nil}, {[]api.Choice{{Class: 0, Node: api.Node{Op: api.OpVar, Width: 7, Name: "x"}}}, nil}, {[]api.Choice{number(1, 2), number(1, 1)}, nil},
		// Choices whose Class is not an id are ignored.
		{[]api.Choice{leaf(-1, "x"), leaf(7, "x"), leaf(math.MinInt, "x"), leaf(math.MaxInt, "x")}, nil}, {[]api.Choice{leaf(7, "y"), leaf(-1, "y"), leaf(0, "x")}, []int{0}},
	} {
		want := make([]bool, len(vars))
		for _, k := range x.want {
			want[k] = true
		}
		if got := encode.Write(g, vars, x.l); !slices.Equal(got, want) {
			t.Errorf("case %d: %v, not %v", i, got, want)
		}
	}
	// The variables may be any choices.
	odd := []api.Choice{leaf(3, "x"), leaf(-1, "x"), leaf(7, "x"), leaf(0, "x"), choose(5, 77, -1), leaf(math.MaxInt, "y")}
	if got := encode.Write(g, odd, append(odd[1:], odd[0])); !slices.Equal(got, []bool{true, false, false, true, true, false}) {
		t.Error(got)
	}
	if got := encode.Write(g, nil, vars); len(got) != 0 {
		t.Error(got)
	}
	used := *g
	for _, g := range []*egraph.Graph{nil, {}, &used} {
		if got := encode.Write(g, vars, vars); len(got) != 0 {
			t.Error(got)
		}
	}
	// A dirty graph will do.
	join(t, g, 1, 4)
	if got := encode.Write(g, vars, []api.Choice{number(4, 1), vars[5]}); !slices.Equal(got, []bool{false, false, true, false, false, false, false}) {
		t.Error(got)
	}
}

// TestCut checks P42.3.
func TestCut(t *testing.T) {
	g := sample(t)
	vars, _ := encode.Vars(g, []int{6})
	cyclic := []api.Choice{vars[1], vars[2], vars[4], vars[5], vars[6]}
	for i, x := range []struct {
		l     []api.Choice
		cycle []int
		want  []int // variables
	}{
		{cyclic, []int{0, 2}, []int{1, 4}}, {cyclic, []int{2, 0}, []int{1, 4}}, {cyclic, []int{5, 3}, []int{1, 4}}, {cyclic, []int{3, 0, 5, 2, 2}, []int{1, 4}}, {cyclic, []int{6}, []int{6}}, {cyclic, []int{0, 1, 2, 4, 6}, []int{1, 2, 4, 5, 6}}, {[]api.Choice{vars[1], vars[5], vars[3]}, []int{0, 2, 4}, []int{1, 3, 5}},
		// a class without a selected variable, an id that is none, and no cycle
		{cyclic[1:], []int{0, 2}, nil}, {cyclic, []int{0, 2, 7}, nil}, {cyclic, []int{-1}, nil}, {cyclic, []int{0, math.MaxInt}, nil}, {cyclic, nil, nil}, {nil, nil, nil}, {nil, []int{0}, nil}, {[]api.Choice{choose(0, api.OpSub, 5, 1), vars[4]}, []int{0, 2}, nil}, {[]api.Choice{vars[4], choose(0, api.OpSub, 5, 1)}, []int{2, 0}, nil}, {append([]api.Choice{leaf(3, "y")}, cyclic...), []int{0, 2}, nil},
	} {
		var want api.Row
		for _, v := range x.want {
			want.Coefs = append(want.Coefs, minus(v))
		}
		if len(x.want) > 0 {
			want.Least = 1 - int64(len(x.want))
		}
		if got, ok := encode.Cut(g, vars, x.l, x.cycle); ok != (len(x.want) > 0) || !sameRow(got, want) {
			t.Errorf("case %d: %v, %v", i, got, ok)
		}
	}
	// Variables that occur twice are selected twice.
	twice := append(slices.Clone(vars), vars[1])
	if got, ok := encode.Cut(g, twice, cyclic, []int{0, 2}); !ok || !sameRow(got, row(-2, minus(1), minus(4), minus(7))) {
		t.Error(got, ok)
	}
	if got, ok := encode.Cut(g, nil, cyclic, []int{0}); ok || !sameRow(got, api.Row{}) {
		t.Error(got, ok)
	}
	used := *g
	for _, g := range []*egraph.Graph{nil, {}, &used} {
		for _, cycle := range [][]int{nil, {0, 2}, {-1}} {
			if got, ok := encode.Cut(g, vars, cyclic, cycle); ok || !sameRow(got, api.Row{}) {
				t.Error(got, ok)
			}
		}
	}
}

// spoil changes the nodes of choices.
func spoil(l []api.Choice) {
	for i := range l {
		for k := range l[i].Node.Args {
			l[i].Node.Args[k] = -7
		}
		l[i] = api.Choice{}
	}
}

// TestMemory checks general rule 5.
func TestMemory(t *testing.T) {
	g := sample(t)
	want, _ := encode.Vars(g, []int{6})
	p, vars, _ := encode.Problem(g, cost.Uniform(), []int{6})
	q, _, _ := encode.Problem(g, cost.Uniform(), []int{6})
	for i := range vars {
		spoil(vars[i : i+1])
		if !sameChoices(vars[i+1:], want[i+1:]) {
			t.Errorf("variable %d shares memory", i)
		}
	}
	for i := range p.Rows {
		for k := range p.Rows[i].Coefs {
			p.Rows[i].Coefs[k] = api.Coef{Var: -1}
		}
		_ = append(p.Rows[i].Coefs, api.Coef{Var: -1})
		if !slices.EqualFunc(p.Rows[i+1:], q.Rows[i+1:], sameRow) {
			t.Errorf("row %d shares memory", i)
		}
	}
	if again, _ := encode.Vars(g, []int{6}); !sameChoices(again, want) {
		t.Error(again)
	}
	vars, _ = encode.Vars(g, []int{6})
	x := []bool{true, true, true, true, true, true, true}
	spoil(encode.Read(vars, x))
	l := slices.Clone(vars)
	cycle := []int{3, 5}
	encode.Cut(g, vars, l, cycle)
	if !sameChoices(vars, want) || !sameChoices(l, want) || !slices.Equal(cycle, []int{3, 5}) || slices.Contains(x, false) {
		t.Error("the arguments changed")
	}
}
