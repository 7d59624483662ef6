package eval_test

import (
	"fmt"
	"slices"
	"testing"

	"saturate/api"
	"saturate/eval"
	"saturate/term"
)

// TestTable checks P8.4: the first variable varies fastest, and all rows are those of Eval.
func TestTable(t *testing.T) {
	lists := [][]api.Var{
		{{Name: "x", Width: 2}, {Name: "y", Width: 1}, {Name: "z", Width: 3}},
		{{Name: "z", Width: 3}, {Name: "y", Width: 1}, {Name: "x", Width: 2}},
		{{Name: "y", Width: 1}, {Name: "", Width: 2}, {Name: "x", Width: 2}, {Name: "Any Name", Width: 1}, {Name: "z", Width: 3}},
	}
	for i, u := range someTerms() {
		if i%4 != 0 {
			continue
		}
		for _, vars := range lists {
			var want []uint64
			for env := range assignments(vars) {
				v, _ := eval.Eval(u, env)
				want = append(want, v)
			}
			if got, e := eval.Table(u, vars); e != api.OK || !slices.Equal(got, want) {
				t.Fatalf("Table of %v for %v is %v, %d, not %v", u, vars, got, e, want)
			}
		}
	}
	sum := term.Make(api.OpAdd, x, api.Term{Op: api.OpZext, Width: 2, Args: []api.Term{y}})
	if l, e := eval.Table(sum, []api.Var{{Name: "x", Width: 2}, {Name: "y", Width: 1}}); !slices.Equal(l, []uint64{0, 1, 2, 3, 1, 2, 3, 0}) || e != api.OK {
		t.Error(l, e)
	}
	if l, e := eval.Table(term.Const(8, 7), nil); !slices.Equal(l, []uint64{7}) || e != api.OK {
		t.Error("no variables:", l, e)
	}
}

// assignments yields all assignments, and the first variable varies fastest.
func assignments(vars []api.Var) func(yield func([]api.Bind) bool) {
	return func(yield func([]api.Bind) bool) {
		env := make([]api.Bind, len(vars))
		for i, v := range vars {
			env[i].Name = v.Name
		}
		for {
			if !yield(env) {
				return
			}
			i := 0
			for ; i < len(vars); i++ {
				env[i].Val++
				if env[i].Val < 1<<vars[i].Width {
					break
				}
				env[i].Val = 0
			}
			if i == len(vars) {
				return
			}
		}
	}
}

// TestTableErrors checks the errors of P8.4, and their order.
func TestTableErrors(t *testing.T) {
	vx, vy, wide := api.Var{Name: "x", Width: 2}, api.Var{Name: "y", Width: 1}, api.Var{Name: "w", Width: 14}
	sum := term.Make(api.OpConcat, x, y)
	for i, c := range []struct {
		t    api.Term
		vars []api.Var
		want api.Errno
	}{
		{api.Term{}, nil, api.ErrOp}, {term.Make(api.OpConcat, x, term.Var("x", 3)), nil, api.ErrBind}, {api.Term{Op: api.OpNot, Width: 4, Args: []api.Term{x}}, []api.Var{vx, vx}, api.ErrWidth}, {term.Var("X", 4), []api.Var{{Name: "X", Width: 4}}, api.ErrName},
		{sum, nil, api.ErrBind}, {sum, []api.Var{vx}, api.ErrBind}, {sum, []api.Var{vy}, api.ErrBind}, {sum, []api.Var{vx, {Name: "y", Width: 2}}, api.ErrBind}, {sum, []api.Var{{Name: "x", Width: 0}, vy}, api.ErrBind}, {sum, []api.Var{vx, vy, vx}, api.ErrBind}, {sum, []api.Var{{Name: "x", Width: 3}, vy, vx}, api.ErrBind}, {sum, []api.Var{vx, vy, {Name: "x", Width: 65}}, api.ErrBind},
		{sum, []api.Var{vx, vy, {Name: ""}, {Name: ""}}, api.ErrBind}, {sum, []api.Var{vx, {Name: "v", Width: 65}}, api.ErrBind}, {sum, []api.Var{vx, wide}, api.ErrBind}, {term.Const(4, 1), []api.Var{vx, vx}, api.ErrBind},
		{sum, []api.Var{vx, vy, {Name: "v", Width: 0}}, api.ErrWidth}, {sum, []api.Var{vx, vy, {Name: "v", Width: -1}}, api.ErrWidth}, {sum, []api.Var{vx, {Name: "v", Width: 65}, vy}, api.ErrWidth}, {sum, []api.Var{vx, vy, wide, {Name: "v", Width: 0}}, api.ErrWidth}, {sum, []api.Var{vx, vy, {Name: "u", Width: 40}, {Name: "v", Width: -40}}, api.ErrWidth},
		{sum, []api.Var{vx, vy, wide}, api.ErrLong}, {sum, []api.Var{vx, vy, {Name: "v", Width: 64}}, api.ErrLong}, {term.Var("v", 17), []api.Var{{Name: "v", Width: 17}}, api.ErrLong}, {term.Const(4, 1), []api.Var{{Name: "v", Width: 17}}, api.ErrLong},
	} {
		if l, e := eval.Table(c.t, c.vars); len(l) != 0 || e != c.want {
			t.Errorf("case %d: %v, %d, not %d", i, l, e, c.want)
		}
	}
}

// TestTableLimit checks that 16 bits are not too many (P8.4).
func TestTableLimit(t *testing.T) {
	l, e := eval.Table(term.Var("v", 16), []api.Var{{Name: "v", Width: 16}})
	if e != api.OK || len(l) != 1<<16 {
		t.Fatal(len(l), e)
	}
	for row, v := range l {
		if v != uint64(row) {
			t.Fatal(row, v)
		}
	}
	var vars []api.Var
	t16 := term.Const(1, 0)
	for i := range 16 {
		vars = append(vars, api.Var{Name: fmt.Sprint("v", i), Width: 1})
		t16 = term.Make(api.OpXor, t16, term.Var(vars[i].Name, 1))
	}
	l, e = eval.Table(t16, vars)
	if e != api.OK || len(l) != 1<<16 || l[1] != 1 || l[3] != 0 || l[1<<15] != 1 || l[1<<16-1] != 0 || l[7<<12] != 1 {
		t.Error(len(l), e)
	}
	if l, e = eval.Table(term.Var("v0", 1), append(vars, api.Var{Name: "v16", Width: 1})); len(l) != 0 || e != api.ErrLong {
		t.Error(len(l), e)
	}
}
