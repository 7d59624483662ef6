package ilp_test

import (
	"math"
	"slices"
	"testing"

	"saturate/api"
	"saturate/ilp"
)

// row returns a row; coefs has variables and coefficients in turn.
func row(least int64, coefs ...int64) api.Row {
	r := api.Row{Least: least}
	for i := 0; i < len(coefs); i += 2 {
		r.Coefs = append(r.Coefs, api.Coef{Var: int(coefs[i]), By: coefs[i+1]})
	}
	return r
}

// problem returns a problem with the given number of variables, each with cost 1.
func problem(variables int, rows ...api.Row) api.Problem {
	return api.Problem{Costs: slices.Repeat([]int64{1}, variables), Rows: rows}
}

// example is the one of chapter 41.
func example() api.Problem {
	return api.Problem{Costs: []int64{3, 2, 2}, Rows: []api.Row{row(1, 0, 1, 1, 1), row(1, 0, 1, 2, 1)}}
}

// sumOfAll returns a row in which each of the first n variables occurs once.
func sumOfAll(n int, least int64) api.Row {
	r := api.Row{Least: least}
	for i := range n {
		r.Coefs = append(r.Coefs, api.Coef{Var: i, By: 1})
	}
	return r
}

// cases has problems with what Check has to return for them.
var cases = []struct {
	p  api.Problem
	at int
	e  api.Errno
}{
	{api.Problem{}, 0, api.OK}, {example(), 0, api.OK}, {problem(3), 0, api.OK}, {problem(0, row(0), row(1), row(-1)), 0, api.OK},
	{api.Problem{Costs: []int64{0, 1 << 40}}, 0, api.OK}, {api.Problem{Costs: []int64{5, -1, -2}}, 1, api.ErrRange}, {api.Problem{Costs: []int64{0, 1, 1<<40 + 1}}, 2, api.ErrRange}, {api.Problem{Costs: []int64{math.MinInt64}}, 0, api.ErrRange}, {api.Problem{Costs: []int64{1, math.MaxInt64}}, 1, api.ErrRange},
	{problem(64, sumOfAll(64, 1)), 0, api.OK}, {problem(65), 0, api.ErrLong}, {api.Problem{Costs: slices.Repeat([]int64{-1}, 65)}, 0, api.ErrLong}, {problem(2, slices.Repeat([]api.Row{row(1, 0, 1)}, 1024)...), 0, api.OK},
	{problem(2, slices.Repeat([]api.Row{row(1, 0, 1)}, 1025)...), 0, api.ErrLong}, {api.Problem{Costs: []int64{-1}, Rows: make([]api.Row, 1025)}, 0, api.ErrLong}, {api.Problem{Costs: []int64{1, 2, -1}, Rows: []api.Row{row(0, 9, 0)}}, 2, api.ErrRange},
	{problem(64, row(0), sumOfAll(65, 1)), 1, api.ErrLong}, {problem(1, row(1<<41, slices.Repeat([]int64{0, 0}, 65)...)), 0, api.ErrLong}, {problem(1, row(0, slices.Repeat([]int64{0, 1}, 64)...)), 0, api.ErrDup},
	{problem(2, row(0, 1, 1), row(0, 2, 1)), 1, api.ErrRange}, {problem(2, row(0, -1, 1)), 0, api.ErrRange}, {problem(0, row(0, 0, 1)), 0, api.ErrRange}, {problem(2, row(0, math.MaxInt, 1)), 0, api.ErrRange}, {problem(2, row(0, math.MinInt, 1)), 0, api.ErrRange},
	{problem(2, row(0, 0, 1<<20, 1, -1<<20)), 0, api.OK}, {problem(2, row(0, 0, 1<<20+1)), 0, api.ErrRange}, {problem(2, row(0), row(0), row(0, 0, 1, 1, -1<<20-1)), 2, api.ErrRange}, {problem(2, row(0, 0, 0)), 0, api.ErrRange}, {problem(2, row(0, 0, math.MinInt64)), 0, api.ErrRange},
	{problem(2, row(1<<40), row(-1<<40)), 0, api.OK}, {problem(2, row(1<<40+1)), 0, api.ErrRange}, {problem(2, row(0), row(-1<<40-1)), 1, api.ErrRange}, {problem(2, row(math.MinInt64)), 0, api.ErrRange},
	{problem(2, row(0, 0, 1, 0, 1)), 0, api.ErrDup}, {problem(3, row(0, 2, 1, 1, 1, 2, -1)), 0, api.ErrDup}, {problem(2, row(0, 0, 1, 0, 1, 2, 1)), 0, api.ErrRange}, {problem(2, row(0, 0, 1, 0, 0)), 0, api.ErrRange}, {problem(2, row(1<<41, 0, 1, 0, 1)), 0, api.ErrRange},
	{problem(2, row(0), row(0, 1, 1, 1, 1), row(0, 5, 1)), 1, api.ErrDup}, {problem(2, row(0, 5, 1), row(0, 1, 1, 1, 1)), 0, api.ErrRange}, {problem(2, row(0, 0, 1), row(0, 0, 1)), 0, api.OK},
}

// TestCheck checks P41.1.
func TestCheck(t *testing.T) {
	for i, c := range cases {
		if at, e := ilp.Check(c.p); at != c.at || e != c.e {
			t.Errorf("case %d: %d, %d, not %d, %d", i, at, e, c.at, c.e)
		}
	}
}

// TestInvalidProblems checks what the other functions return for a problem that is not valid (P41.2 to P41.4).
func TestInvalidProblems(t *testing.T) {
	for i, c := range cases {
		if c.e == api.OK {
			continue
		}
		n := len(c.p.Costs)
		if ilp.Feasible(c.p, make([]bool, n)) || ilp.Feasible(c.p, slices.Repeat([]bool{true}, n)) {
			t.Errorf("case %d: Feasible", i)
		}
		if x, ok := ilp.Propagate(c.p, slices.Repeat([]int{-1}, n)); len(x) != 0 || ok {
			t.Errorf("case %d: Propagate returns %v, %v", i, x, ok)
		}
		if b := ilp.Bound(c.p, slices.Repeat([]int{1}, n)); b != 0 {
			t.Errorf("case %d: Bound returns %d", i, b)
		}
		if x, cost, e := ilp.Solve(c.p); len(x) != 0 || cost != 0 || e != c.e {
			t.Errorf("case %d: Solve returns %v, %d, %d", i, x, cost, e)
		}
	}
}

// TestFeasible checks P41.2: Feasible.
func TestFeasible(t *testing.T) {
	p := problem(3, row(1, 0, 1, 1, 1), row(-1, 1, -1, 2, -1), row(-5, 0, -7, 2, 3))
	for mask := range 8 {
		x := []bool{mask&1 != 0, mask&2 != 0, mask&4 != 0}
		want := (x[0] || x[1]) && !(x[1] && x[2]) && (!x[0] || x[2])
		if ilp.Feasible(p, x) != want {
			t.Errorf("Feasible of %v is %v", x, !want)
		}
	}
	good := []bool{true, false, true}
	if !ilp.Feasible(p, good) || ilp.Feasible(p, good[:2]) || ilp.Feasible(p, append(good, false)) || ilp.Feasible(p, nil) {
		t.Error("the number of elements")
	}
	if !ilp.Feasible(api.Problem{}, nil) || !ilp.Feasible(problem(0, row(0)), []bool{}) || ilp.Feasible(problem(0, row(1)), nil) || !ilp.Feasible(problem(1), []bool{true}) {
		t.Error("without variables or rows")
	}
	exact := problem(2, row(5, 0, 2, 1, 3))
	if !ilp.Feasible(exact, []bool{true, true}) || ilp.Feasible(exact, []bool{false, true}) || !ilp.Feasible(problem(2, row(-3, 0, 2, 1, -3)), []bool{false, true}) || ilp.Feasible(problem(2, row(-2, 0, 2, 1, -3)), []bool{false, true}) {
		t.Error("sums at the bound")
	}
}

// TestCost checks P41.2: Cost.
func TestCost(t *testing.T) {
	costs := []int64{3, 0, 1 << 40, 10, 1<<40 + 1, math.MaxInt64, -1, math.MinInt64}
	for _, c := range []struct {
		x    []bool
		want int64
	}{
		{nil, 0}, {[]bool{true}, 3}, {[]bool{false, true}, 0}, {[]bool{true, true, true, true}, 13 + 1<<40}, {[]bool{false, false, false, true}, 10}, {[]bool{0: true, 4: true}, 3 + 1<<40}, {[]bool{0: true, 5: true}, 3 + 1<<40}, {[]bool{0: true, 6: true}, 3}, {[]bool{0: true, 7: true}, 3},
		{slices.Repeat([]bool{true}, 8), 13 + 3<<40}, {slices.Repeat([]bool{true}, 20), 13 + 3<<40},
	} {
		if cost := ilp.Cost(api.Problem{Costs: costs}, c.x); cost != c.want {
			t.Errorf("Cost of %v is %d, not %d", c.x, cost, c.want)
		}
	}
	if ilp.Cost(api.Problem{}, []bool{true}) != 0 || ilp.Cost(problem(100), slices.Repeat([]bool{true}, 90)) != 90 || ilp.Cost(problem(2, row(0, 9, 0)), []bool{true, true}) != 2 {
		t.Error("invalid problems")
	}
}

// TestLess checks P41.2: Less.
func TestLess(t *testing.T) {
	increasing := [][]bool{{}, {false}, {false, false}, {false, false, true}, {false, true}, {false, true, false}, {true}, {true, false}, {true, false, true}, {true, true}}
	for i, a := range increasing {
		for k, b := range increasing {
			if ilp.Less(a, b) != (i < k) {
				t.Errorf("Less(%v, %v) is %v", a, b, i >= k)
			}
		}
	}
	if ilp.Less(nil, nil) || ilp.Less(nil, []bool{}) || !ilp.Less(nil, []bool{false}) {
		t.Error("nil")
	}
}

// TestBound checks P41.3: Bound.
func TestBound(t *testing.T) {
	p := api.Problem{Costs: []int64{3, 1 << 40, 7, 0}, Rows: []api.Row{row(9, 0, 1)}}
	for _, c := range []struct {
		x    []int
		want int64
	}{
		{[]int{0, 0, 0, 0}, 0}, {[]int{-1, -1, -1, -1}, 0}, {[]int{1, -1, 0, 1}, 3}, {[]int{1, 1, 1, 1}, 10 + 1<<40}, {[]int{-1, 0, 1, -1}, 7},
		{[]int{1, 1, 1}, 0}, {[]int{1, 1, 1, 1, 1}, 0}, {nil, 0}, {[]int{1, 2, 1, 1}, 0}, {[]int{1, 1, 1, -2}, 0}, {[]int{math.MaxInt, 1, 1, 1}, 0},
	} {
		if b := ilp.Bound(p, c.x); b != c.want {
			t.Errorf("Bound of %v is %d, not %d", c.x, b, c.want)
		}
	}
}
