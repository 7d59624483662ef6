package ilp_test

import (
	"iter"
	"math/rand/v2"
	"slices"
	"testing"

	"saturate/api"
	"saturate/ilp"
)

// solutions yields all solutions of a problem with few variables, in lexicographic order.
func solutions(p api.Problem) iter.Seq[[]bool] {
	return func(yield func([]bool) bool) {
		n := len(p.Costs)
		for number := range 1 << n {
			x := make([]bool, n)
			for i := range x {
				x[i] = number>>(n-1-i)&1 == 1
			}
			if ilp.Feasible(p, x) && !yield(x) {
				return
			}
		}
	}
}

// wantSolve says what Solve has to return, by P41.4.
func wantSolve(p api.Problem) ([]bool, int64, api.Errno) {
	var best []bool
	e := api.ErrInfeasible
	for x := range solutions(p) {
		if e != api.OK || ilp.Cost(p, x) < ilp.Cost(p, best) {
			best, e = x, api.OK
		}
	}
	return best, ilp.Cost(p, best), e
}

// TestSolve checks P41.4 and P41.5 for many problems.
func TestSolve(t *testing.T) {
	r := rand.New(rand.NewPCG(41, 4))
	infeasible := 0
	for range 8000 {
		p := randomProblem(r, 1+r.IntN(9), r.IntN(12))
		x, cost, e := ilp.Solve(p)
		if want, wantCost, wantError := wantSolve(p); !slices.Equal(x, want) || cost != wantCost || e != wantError {
			t.Fatalf("Solve of %v is %v, %d, %d, not %v, %d, %d", p, x, cost, e, want, wantCost, wantError)
		}
		if e == api.ErrInfeasible {
			infeasible++
		}
	}
	if infeasible < 1000 || infeasible > 7000 {
		t.Error("too few problems of one kind", infeasible)
	}
}

// TestSolveLarger checks P41.4 for fewer problems with more variables.
func TestSolveLarger(t *testing.T) {
	r := rand.New(rand.NewPCG(41, 5))
	for range 25 {
		p := randomProblem(r, 13, 6+r.IntN(9))
		x, cost, e := ilp.Solve(p)
		if want, wantCost, wantError := wantSolve(p); !slices.Equal(x, want) || cost != wantCost || e != wantError {
			t.Fatalf("Solve of %v is %v, %d, %d, not %v, %d, %d", p, x, cost, e, want, wantCost, wantError)
		}
	}
}

// TestSolveParts checks P41.4 for problems that fall into parts as soon as two variables have values.
func TestSolveParts(t *testing.T) {
	r := rand.New(rand.NewPCG(41, 7))
	for range 60 {
		p := api.Problem{Costs: []int64{r.Int64N(40), r.Int64N(40)}}
		for v := 2; v < 14; v += 3 { // three variables of which two are needed, if the first two allow it
			for i := range 3 {
				p.Costs = append(p.Costs, 3+r.Int64N(4))
				edge := anyOf(v+i, v+(i+1)%3)
				if hub := r.IntN(4); hub < 2 {
					edge.Coefs = append(edge.Coefs, api.Coef{Var: hub, By: 1})
				}
				p.Rows = append(p.Rows, edge)
			}
		}
		x, cost, e := ilp.Solve(p)
		if want, wantCost, wantError := wantSolve(p); !slices.Equal(x, want) || cost != wantCost || e != wantError {
			t.Fatalf("Solve of %v is %v, %d, %d, not %v, %d, %d", p, x, cost, e, want, wantCost, wantError)
		}
	}
}

// TestSolveExamples checks P41.4 for the example of chapter 41, and for problems of few variables and rows.
func TestSolveExamples(t *testing.T) {
	equal := example()
	equal.Costs[0] = 4 // as much as the others together, which come later
	dear := example()
	dear.Costs[0] = 5
	for i, c := range []struct {
		p    api.Problem
		want []bool
		cost int64
		e    api.Errno
	}{
		{example(), []bool{true, false, false}, 3, api.OK}, {equal, []bool{false, true, true}, 4, api.OK}, {dear, []bool{false, true, true}, 4, api.OK}, {api.Problem{}, nil, 0, api.OK}, {problem(0, row(0), row(-1<<40)), nil, 0, api.OK}, {problem(0, row(1)), nil, 0, api.ErrInfeasible},
		{problem(2), []bool{false, false}, 0, api.OK}, {problem(2, row(1<<40, 0, 1)), nil, 0, api.ErrInfeasible}, {problem(2, row(1, 0, 1), row(0, 0, -1)), nil, 0, api.ErrInfeasible}, {problem(2, row(2, 0, 1, 1, 1)), []bool{true, true}, 2, api.OK}, {problem(2, row(3, 0, 1, 1, 1)), nil, 0, api.ErrInfeasible},
		{problem(3, row(1, 0, 1, 1, 1, 2, 1)), []bool{false, false, true}, 1, api.OK}, {problem(3, row(2, 2, 1, 1, 1, 0, 1)), []bool{false, true, true}, 2, api.OK}, {problem(3, row(4, 0, 4, 1, 3, 2, 2)), []bool{true, false, false}, 1, api.OK},
		{api.Problem{Costs: []int64{0, 0, 0}, Rows: []api.Row{row(1, 0, 1, 1, 1)}}, []bool{false, true, false}, 0, api.OK}, {api.Problem{Costs: []int64{0, 1 << 40, 1 << 40}, Rows: []api.Row{row(2, 0, 1, 1, 1, 2, 1)}}, []bool{true, false, true}, 1 << 40, api.OK},
		{problem(2, row(0, 0, -1), row(-1, 0, -1, 1, -1)), []bool{false, false}, 0, api.OK}, {problem(4, row(1, 0, 1), row(0, 0, -1, 1, 1), row(0, 1, -1, 2, 1, 3, 1)), []bool{true, true, false, true}, 3, api.OK},
	} {
		if x, cost, e := ilp.Solve(c.p); !slices.Equal(x, c.want) || cost != c.cost || e != c.e {
			t.Errorf("case %d: %v, %d, %d, not %v, %d, %d", i, x, cost, e, c.want, c.cost, c.e)
		}
	}
}

// TestSolveArgument checks that Solve leaves its argument alone.
func TestSolveArgument(t *testing.T) {
	p := example()
	ilp.Solve(p)
	q := example()
	if !slices.Equal(p.Costs, q.Costs) || !slices.EqualFunc(p.Rows, q.Rows, func(a, b api.Row) bool { return a.Least == b.Least && slices.Equal(a.Coefs, b.Coefs) }) {
		t.Error(p)
	}
}

// trueOnes returns the indices of the variables that are true.
func trueOnes(x []bool) []int {
	var list []int
	for i := range x {
		if x[i] {
			list = append(list, i)
		}
	}
	return list
}

// anyOf returns a row that wants one of the variables to be true.
func anyOf(variables ...int) api.Row {
	r := api.Row{Least: 1}
	for _, v := range variables {
		r.Coefs = append(r.Coefs, api.Coef{Var: v, By: 1})
	}
	return r
}

// TestSolveTies checks P41.4 for problems of 64 variables with a great many solutions of least cost.
func TestSolveTies(t *testing.T) {
	pairs := problem(64)
	path := problem(64)
	var odd []int
	for i := range 63 {
		if i%2 == 0 {
			pairs.Rows = append(pairs.Rows, anyOf(i, i+1))
			odd = append(odd, i+1)
		}
		path.Rows = append(path.Rows, anyOf(i, i+1))
	}
	if x, cost, e := ilp.Solve(pairs); !slices.Equal(trueOnes(x), odd) || cost != 32 || e != api.OK {
		t.Error("pairs", trueOnes(x), cost, e)
	}
	// Each second edge needs a node of its own: 32 nodes, as early edges as possible having their second node.
	if x, cost, e := ilp.Solve(path); !slices.Equal(trueOnes(x), odd) || cost != 32 || e != api.OK {
		t.Error("path", trueOnes(x), cost, e)
	}
	free := api.Problem{Costs: make([]int64, 64)}
	for i := 1; i < 64; i++ {
		free.Rows = append(free.Rows, anyOf(0, i))
	}
	if x, cost, e := ilp.Solve(free); x[0] || len(trueOnes(x)) != 63 || cost != 0 || e != api.OK {
		t.Error("all but the first", trueOnes(x), cost, e)
	}
	free.Rows = []api.Row{anyOf(61, 62), anyOf(61, 63)}
	if x, cost, e := ilp.Solve(free); !slices.Equal(trueOnes(x), []int{62, 63}) || cost != 0 || e != api.OK {
		t.Error("the last two", trueOnes(x), cost, e)
	}
	half := problem(64, sumOfAll(64, 32))
	if x, cost, e := ilp.Solve(half); !slices.Equal(trueOnes(x), trueOnes(append(make([]bool, 32), slices.Repeat([]bool{true}, 32)...))) || cost != 32 || e != api.OK {
		t.Error("half", trueOnes(x), cost, e)
	}
}

// extraction returns the problem of selecting nodes: classes has for each class the operands of its nodes, the first class being the root.
func extraction(classes [][][]int) api.Problem {
	var p api.Problem
	var variables [][]int
	for _, nodes := range classes {
		var list []int
		for range nodes {
			list = append(list, len(p.Costs))
			p.Costs = append(p.Costs, 1)
		}
		variables = append(variables, list)
	}
	p.Rows = append(p.Rows, anyOf(variables[0]...))
	for class, nodes := range classes {
		for i, operands := range nodes {
			for _, operand := range operands {
				r := anyOf(variables[operand]...)
				r.Coefs = append(r.Coefs, api.Coef{Var: variables[class][i], By: -1})
				r.Least = 0
				p.Rows = append(p.Rows, r)
			}
		}
	}
	return p
}

// TestSolveExtractions checks P41.4 for problems as chapter 42 makes them, with 60 variables or more.
func TestSolveExtractions(t *testing.T) {
	var chain, fibonacci, ladder [][][]int
	for i := range 30 {
		chain = append(chain, [][]int{{i + 1}, {i + 1}})
		fibonacci = append(fibonacci, [][]int{{i + 1, i + 2}, {i + 2, i + 1}})
	}
	chain = append(chain, [][]int{{}})
	fibonacci = append(fibonacci, [][]int{{}}, [][]int{{}})
	for i := 0; i < 36; i += 3 { // from i to i + 3 by one class or by the other one
		ladder = append(ladder, [][]int{{i + 1}, {i + 2}}, [][]int{{i + 3}}, [][]int{{i + 3}, {i + 3}})
	}
	ladder = append(ladder, [][]int{{}})
	for i, c := range []struct {
		p    api.Problem
		cost int64
	}{{extraction(chain), 31}, {extraction(fibonacci), 32}, {extraction(ladder), 25}} {
		x, cost, e := ilp.Solve(c.p)
		if cost != c.cost || e != api.OK || !ilp.Feasible(c.p, x) || ilp.Cost(c.p, x) != cost {
			t.Errorf("case %d: %v, %d, %d", i, trueOnes(x), cost, e)
		}
	}
}

// TestSolveSums checks P41.4 for the sums of four variables in all orders, of which all are equally dear.
func TestSolveSums(t *testing.T) {
	classes := make([][][]int, 15) // class 15 - s has the sums of the set s
	for s := 1; s < 16; s++ {
		var nodes [][]int
		if s&(s-1) == 0 {
			nodes = [][]int{{}}
		}
		for a := 1; a < s; a++ {
			if a&^s == 0 {
				nodes = append(nodes, []int{15 - a, 15 - (s &^ a)})
			}
		}
		classes[15-s] = nodes
	}
	p := extraction(classes)
	x, cost, e := ilp.Solve(p)
	if len(p.Costs) != 54 || cost != 7 || e != api.OK || !ilp.Feasible(p, x) {
		t.Error(len(p.Costs), trueOnes(x), cost, e)
	}
}

// TestSolveKnapsack checks P41.4 for a row with 64 different coefficients against a table of all sums.
func TestSolveKnapsack(t *testing.T) {
	r := rand.New(rand.NewPCG(41, 6))
	for range 5 {
		p := api.Problem{Rows: []api.Row{{}}}
		const least = 15000
		best := make([]int64, least+1) // the least cost for each sum, or more
		for i := 1; i <= least; i++ {
			best[i] = 1 << 50
		}
		for i := range 64 {
			cost, by := r.Int64N(1000), 1+r.Int64N(1000)
			p.Costs = append(p.Costs, cost)
			p.Rows[0].Coefs = append(p.Rows[0].Coefs, api.Coef{Var: i, By: by})
			for s := int64(least); s > 0; s-- {
				best[s] = min(best[s], best[max(s-by, 0)]+cost)
			}
		}
		p.Rows[0].Least = least
		if x, cost, e := ilp.Solve(p); cost != best[least] || e != api.OK || !ilp.Feasible(p, x) || ilp.Cost(p, x) != cost {
			t.Error(cost, best[least], e)
		}
	}
}

// TestSolveQueens checks P41.4 for 8 queens on a board, of which no two are in line, and for 8 pigeons in 7 holes.
func TestSolveQueens(t *testing.T) {
	p := api.Problem{Costs: slices.Repeat([]int64{0}, 64)}
	lines := make([]api.Row, 8+8+15+15)
	for field := range int64(64) {
		x, y := field%8, field/8
		for _, line := range []int64{x, 8 + y, 16 + x + y, 31 + 7 + x - y} {
			lines[line].Least = -1
			lines[line].Coefs = append(lines[line].Coefs, api.Coef{Var: int(field), By: -1})
		}
	}
	p.Rows = append(lines, sumOfAll(64, 8))
	x, cost, e := ilp.Solve(p)
	// Every solution has one queen in a row of the board; the least one has each first queen as far to the right as possible.
	if want := []int{7, 11, 16, 26, 37, 41, 54, 60}; !slices.Equal(trueOnes(x), want) || cost != 0 || e != api.OK {
		t.Error(trueOnes(x), cost, e)
	}
	pigeons := problem(56)
	for i := range int64(8) {
		in := api.Row{Least: 1}
		for hole := range int64(7) {
			in.Coefs = append(in.Coefs, api.Coef{Var: int(7*i + hole), By: 1})
		}
		pigeons.Rows = append(pigeons.Rows, in)
	}
	for hole := range int64(7) {
		most := api.Row{Least: -1}
		for i := range int64(8) {
			most.Coefs = append(most.Coefs, api.Coef{Var: int(7*i + hole), By: -1})
		}
		pigeons.Rows = append(pigeons.Rows, most)
	}
	if x, cost, e := ilp.Solve(pigeons); len(x) != 0 || cost != 0 || e != api.ErrInfeasible {
		t.Error(x, cost, e)
	}
}

// TestSolveLimits checks P41.4 at the limits of the numbers and of the number of rows.
func TestSolveLimits(t *testing.T) {
	p := api.Problem{Costs: slices.Repeat([]int64{1 << 40}, 64)}
	for i := range 64 {
		for k := range i {
			if len(p.Rows) < 1023 {
				p.Rows = append(p.Rows, anyOf(i, k))
			}
		}
	}
	all := api.Row{Least: 63 << 20}
	for i := range 64 {
		all.Coefs = append(all.Coefs, api.Coef{Var: i, By: 1 << 20})
	}
	p.Rows = append(p.Rows, all)
	x, cost, e := ilp.Solve(p)
	if len(p.Rows) != 1024 || cost != 63<<40 || e != api.OK || x[0] || len(trueOnes(x)) != 63 {
		t.Error(len(p.Rows), cost, e, trueOnes(x))
	}
	p.Rows[1023].Least++
	if x, cost, e = ilp.Solve(p); cost != 64<<40 || e != api.OK || len(trueOnes(x)) != 64 {
		t.Error(cost, e, trueOnes(x))
	}
	p.Rows[1023].Least = 64<<20 + 1
	if x, cost, e = ilp.Solve(p); len(x) != 0 || cost != 0 || e != api.ErrInfeasible {
		t.Error(cost, e, trueOnes(x))
	}
}

// TestSolveAny checks that SolveAny is Solve without the limit of the number of rows.
func TestSolveAny(t *testing.T) {
	for i, c := range cases {
		want, wantCost, wantError := ilp.Solve(c.p)
		if len(c.p.Rows) > api.MaxRows {
			continue
		}
		if x, cost, e := ilp.SolveAny(c.p); !slices.Equal(x, want) || cost != wantCost || e != wantError {
			t.Errorf("case %d: %v, %d, %d, not %v, %d, %d", i, x, cost, e, want, wantCost, wantError)
		}
	}
	p := problem(12)
	for i := range 12 {
		for k := range i {
			for range 20 {
				p.Rows = append(p.Rows, anyOf(i, k))
			}
		}
	}
	if x, cost, e := ilp.Solve(p); len(x) != 0 || cost != 0 || e != api.ErrLong {
		t.Error(x, cost, e)
	}
	x, cost, e := ilp.SolveAny(p)
	if len(p.Rows) != 1320 || e != api.OK || x[0] || len(trueOnes(x)) != 11 || cost != ilp.Cost(p, x) {
		t.Error(x, cost, e)
	}
	p.Rows = append(p.Rows, row(1))
	if x, cost, e := ilp.SolveAny(p); len(x) != 0 || cost != 0 || e != api.ErrInfeasible {
		t.Error(x, cost, e)
	}
	p.Rows = append(p.Rows, row(0, 12, 1))
	if x, cost, e := ilp.SolveAny(p); len(x) != 0 || cost != 0 || e != api.ErrRange {
		t.Error(x, cost, e)
	}
}
