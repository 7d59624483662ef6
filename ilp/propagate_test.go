package ilp_test

import (
	"math/rand/v2"
	"slices"
	"testing"

	"saturate/api"
	"saturate/ilp"
)

// wantChange returns the first change that P41.3 asks for, and whether there is a conflict before it.
func wantChange(p api.Problem, x []int) (variable, value int, conflict bool) {
	for _, r := range p.Rows {
		reach := int64(0)
		for _, c := range r.Coefs {
			if x[c.Var] == 1 || x[c.Var] == -1 && c.By > 0 {
				reach += c.By
			}
		}
		if reach < r.Least {
			return -1, 0, true
		}
		for _, c := range r.Coefs {
			switch {
			case x[c.Var] != -1:
			case c.By > 0 && reach-c.By < r.Least:
				return c.Var, 1, false
			case c.By < 0 && reach+c.By < r.Least:
				return c.Var, 0, false
			}
		}
	}
	return -1, 0, false
}

func wantPropagate(p api.Problem, x []int) ([]int, bool) {
	x = slices.Clone(x)
	for {
		variable, value, conflict := wantChange(p, x)
		if conflict || variable < 0 {
			return x, !conflict
		}
		x[variable] = value
	}
}

// randomProblem returns a valid problem; its rows are of several kinds.
func randomProblem(r *rand.Rand, variables, rows int) api.Problem {
	var p api.Problem
	greatest := []int64{0, 1, 9, 1 << 40}[r.IntN(4)]
	for range variables {
		p.Costs = append(p.Costs, r.Int64N(greatest+1))
	}
	kind := r.IntN(5)
	for range rows {
		p.Rows = append(p.Rows, randomRow(r, variables, kind))
	}
	return p
}

func randomRow(r *rand.Rand, variables, kind int) api.Row {
	var made api.Row
	sum := int64(0)
	for _, v := range r.Perm(variables)[:r.IntN(min(variables, 6)+1)] {
		by := int64(1)
		switch kind {
		case 1, 2:
			by = 1 - 2*r.Int64N(2)
		case 3:
			by = []int64{-4, -3, -2, -1, 1, 2, 3, 4, 5, 6, 7}[r.IntN(11)]
		case 4:
			by = 1 + r.Int64N(api.MaxCoef)
			if r.IntN(4) == 0 {
				by = -by
			}
		}
		made.Coefs = append(made.Coefs, api.Coef{Var: v, By: by})
		if r.IntN(2) == 0 {
			sum += by
		}
	}
	made.Least = sum
	if kind == 0 {
		made.Least = r.Int64N(3)
	}
	return made
}

// TestPropagate checks P41.3 for many problems, and that all solutions are kept (P41.5).
func TestPropagate(t *testing.T) {
	r := rand.New(rand.NewPCG(41, 3))
	conflicts := 0
	for range 8000 {
		p := randomProblem(r, 1+r.IntN(8), r.IntN(9))
		start := make([]int, len(p.Costs))
		for i := range start {
			start[i] = []int{-1, -1, -1, 0, 1}[r.IntN(5)]
		}
		before := slices.Clone(start)
		x, ok := ilp.Propagate(p, start)
		if want, wantOk := wantPropagate(p, start); !slices.Equal(x, want) || ok != wantOk {
			t.Fatalf("Propagate of %v, %v is %v, %v, not %v, %v", p, start, x, ok, want, wantOk)
		}
		if !slices.Equal(start, before) {
			t.Fatal("the argument is changed", before, start)
		}
		if !ok {
			conflicts++
		}
		for solution := range solutions(p) {
			if agrees(solution, start) && (!ok || !agrees(solution, x)) {
				t.Fatalf("Propagate of %v, %v loses %v", p, start, solution)
			}
		}
	}
	if conflicts < 1000 || conflicts > 7000 {
		t.Error("too few problems of one kind", conflicts)
	}
}

// agrees reports whether a solution has the values of a partial assignment.
func agrees(solution []bool, x []int) bool {
	for i, v := range x {
		if v == 0 && solution[i] || v == 1 && !solution[i] {
			return false
		}
	}
	return true
}

// TestPropagateExamples checks the order in which P41.3 examines rows and variables, which shows where there is a conflict.
func TestPropagateExamples(t *testing.T) {
	for i, c := range []struct {
		p    api.Problem
		x    []int
		want []int
		ok   bool
	}{
		{example(), []int{-1, -1, -1}, []int{-1, -1, -1}, true}, {example(), []int{0, -1, -1}, []int{0, 1, 1}, true}, {example(), []int{0, 0, -1}, []int{0, 0, -1}, false}, {example(), []int{0, -1, 0}, []int{0, 1, 0}, false},
		{api.Problem{}, nil, nil, true}, {problem(0, row(1)), nil, nil, false}, {problem(2, row(1)), []int{-1, 1}, []int{-1, 1}, false}, {problem(2), []int{-1, 1}, []int{-1, 1}, true},
		{problem(3, row(2, 2, 1, 0, 1), row(0, 1, 1, 0, -1), row(0, 1, -1)), []int{-1, -1, -1}, []int{1, 1, 1}, false}, // the second row before the third one
		{problem(3, row(0, 1, -1), row(2, 2, 1, 0, 1), row(0, 1, 1, 0, -1)), []int{-1, -1, -1}, []int{1, 0, 1}, false}, // the first row, and then the conflict
		{problem(2, row(0, 0, 1, 1, -1), row(0, 0, -1), row(1, 1, 1)), []int{-1, -1}, []int{0, 0}, false},              // the first row again after the second one
		{problem(3, row(1, 0, 2, 1, 1, 2, -2)), []int{-1, -1, -1}, []int{-1, -1, -1}, true}, {problem(3, row(2, 0, 2, 1, 1, 2, -2)), []int{-1, -1, -1}, []int{1, -1, 0}, true}, {problem(3, row(3, 2, -2, 1, 1, 0, 2)), []int{-1, -1, -1}, []int{1, 1, 0}, true},
		{problem(2, row(-1, 0, -1, 1, -1)), []int{1, -1}, []int{1, 0}, true}, {problem(2, row(-1, 0, -1, 1, -1)), []int{1, 1}, []int{1, 1}, false}, {problem(2, row(2, 0, 1, 1, 1)), []int{1, -1}, []int{1, 1}, true},
		{problem(1), nil, nil, false}, {problem(1), []int{-1, -1}, nil, false}, {problem(1), []int{2}, nil, false}, {problem(1), []int{-2}, nil, false},
	} {
		if x, ok := ilp.Propagate(c.p, c.x); !slices.Equal(x, c.want) || ok != c.ok {
			t.Errorf("case %d: %v, %v, not %v, %v", i, x, ok, c.want, c.ok)
		}
	}
}

// TestPropagateMemory checks that the result shares no memory with the argument.
func TestPropagateMemory(t *testing.T) {
	start := []int{-1, -1, -1}
	x, _ := ilp.Propagate(example(), start)
	x[0] = 7
	if start[0] != -1 {
		t.Error(start)
	}
}

// TestPropagateLimits checks that the greatest problems do not take long: each of 1024 rows waits for the one behind it.
func TestPropagateLimits(t *testing.T) {
	p := problem(64)
	for i := range 1023 {
		p.Rows = append(p.Rows, row(0, int64(i%63), -1, int64(i%63)+1, 1))
	}
	p.Rows = append(p.Rows, row(1, 0, 1))
	x, ok := ilp.Propagate(p, slices.Repeat([]int{-1}, 64))
	if !ok || !slices.Equal(x, slices.Repeat([]int{1}, 64)) {
		t.Error(x, ok)
	}
}
