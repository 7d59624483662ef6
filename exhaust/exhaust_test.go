package exhaust_test

import (
	"fmt"
	"slices"
	"testing"

	"saturate/api"
	"saturate/enum"
	"saturate/eval"
	"saturate/exhaust"
	"saturate/term"
	"saturate/termtext"
)

// read returns the term or pattern with a text.
func read(s string) api.Term {
	t, e := termtext.Parse(s)
	if e != api.OK {
		panic(fmt.Sprint(s, " has the error ", e))
	}
	return t
}

// readAll returns the terms with these texts.
func readAll(texts ...string) []api.Term {
	var list []api.Term
	for _, s := range texts {
		list = append(list, read(s))
	}
	return list
}

// node returns a node that need not be valid.
func node(op api.Op, width int, args ...api.Term) api.Term {
	return api.Term{Op: op, Width: width, Args: args}
}

// TestVars checks P11.1 for terms without errors.
func TestVars(t *testing.T) {
	for i, c := range []struct {
		l    []api.Term
		want []api.Var
	}{
		{nil, nil}, {readAll("5:8"), nil}, {readAll("5:64", "(add 1:64 2:64)"), nil}, {readAll("x:8"), []api.Var{{Name: "x", Width: 8}}}, {readAll("x:8", "x:8", "(add x:8 x:8)"), []api.Var{{Name: "x", Width: 8}}},
		{readAll("(sub z:2 b:2)", "(not a10:1)", "a9:3", "(add b:2 a_:2)"), []api.Var{{Name: "a10", Width: 1}, {Name: "a9", Width: 3}, {Name: "a_", Width: 2}, {Name: "b", Width: 2}, {Name: "z", Width: 2}}},
		{readAll("x:16"), []api.Var{{Name: "x", Width: 16}}}, {readAll("x:8", "y:7", "z:1"), []api.Var{{Name: "x", Width: 8}, {Name: "y", Width: 7}, {Name: "z", Width: 1}}}, {readAll("(mul x:8 (mul x:8 x:8))", "(xor y:8 x:8)"), []api.Var{{Name: "x", Width: 8}, {Name: "y", Width: 8}}},
		{readAll("(zext 64 x:8)", "(concat 9:50 y:8)"), []api.Var{{Name: "x", Width: 8}, {Name: "y", Width: 8}}},
	} {
		if vars, e := exhaust.Vars(c.l...); e != api.OK || !slices.Equal(vars, c.want) {
			t.Errorf("case %d: %v, %d, not %v", i, vars, e, c.want)
		}
	}
}

// badLists has lists of terms with the error that Vars has to return.
func badLists() map[api.Errno][][]api.Term {
	x, wide, wrong := read("x:8"), read("w:17"), node(api.OpAdd, 8, read("x:8"), read("x:4"))
	twice := node(api.OpConcat, 11, x, read("x:3"))
	deep := x
	for range 64 {
		deep = node(api.OpNot, 8, deep)
	}
	return map[api.Errno][][]api.Term{
		// The first term with an error counts, before variables of several terms are compared.
		api.ErrOp:    {{{}}, {x, {}}, {x, read("x:4"), wide, {}}, {read("?x:8")}, {{}, wrong}, {x, x, node(api.OpAdd, 8, x)}},
		api.ErrWidth: {{wrong}, {wrong, {}}, {read("x:4"), x, wrong, twice}},
		api.ErrName:  {{{Op: api.OpVar, Width: 8, Name: "X"}}, {wide, {Op: api.OpVar, Width: 8}, wrong}},
		api.ErrBind:  {{twice}, {twice, wrong}, {x, read("x:4")}, {x, x, read("(not x:9)")}, {wide, x, read("x:4")}, {read("y:4"), read("(add x:4 y:4)"), read("(concat z:1 y:5)")}},
		api.ErrLong:  {{deep}, {deep, wrong}, {wide}, {read("x:64")}, {x, read("y:9")}, {read("(add x:8 y:8)"), read("z:1")}, {read("x:16"), read("(xor a:1 b:1)")}},
	}
}

// TestErrors checks the errors of P11.1, and that the other functions return them.
func TestErrors(t *testing.T) {
	for want, lists := range badLists() {
		for i, l := range lists {
			if vars, e := exhaust.Vars(l...); e != want || len(vars) != 0 {
				t.Errorf("list %d with error %d: %v, %d", i, want, vars, e)
			}
			ok, env, e := exhaust.Valid(l, read("1:4"), read("0:4"))
			if ok || len(env) != 0 || e != want {
				t.Errorf("Valid of list %d with error %d: %v, %v, %d", i, want, ok, env, e)
			}
			a, b := l[0], l[len(l)-1]
			if len(l) <= 2 {
				if ok, env, e = exhaust.Equal(a, b); ok || len(env) != 0 || e != want {
					t.Errorf("Equal of list %d with error %d: %v, %v, %d", i, want, ok, env, e)
				}
			}
			if len(l) == 1 {
				ok, env, e = exhaust.Sat(a)
				n, e2 := exhaust.Count(a)
				if ok || len(env) != 0 || e != want || n != 0 || e2 != want {
					t.Errorf("Sat or Count of list %d with error %d: %v, %v, %d, %d, %d", i, want, ok, env, e, n, e2)
				}
			}
		}
	}
}

// TestWidths checks ErrWidth of P11.2 and P11.3, and that other errors come first.
func TestWidths(t *testing.T) {
	bit, bits := read("b:1"), read("c:2")
	for i, c := range []struct {
		hyps []api.Term
		a, b string
		want api.Errno
	}{
		{nil, "x:8", "y:4", api.ErrWidth}, {nil, "x:8", "(eq x:8 0:8)", api.ErrWidth}, {nil, "1:8", "1:9", api.ErrWidth}, {[]api.Term{bits}, "1:8", "1:8", api.ErrWidth}, {[]api.Term{bit, bit, bits}, "1:8", "1:8", api.ErrWidth}, {[]api.Term{bits, bit}, "1:8", "2:8", api.ErrWidth}, {[]api.Term{bit}, "1:8", "1:7", api.ErrWidth},
		{[]api.Term{bits}, "x:8", "x:4", api.ErrBind}, {[]api.Term{bits}, "x:8", "b:2", api.ErrWidth}, {[]api.Term{bits}, "x:8", "b:9", api.ErrLong}, {nil, "x:16", "b:1", api.ErrLong}, {[]api.Term{{}}, "x:8", "b:1", api.ErrOp}, {[]api.Term{bit}, "b:2", "3:2", api.ErrBind},
	} {
		if ok, env, e := exhaust.Valid(c.hyps, read(c.a), read(c.b)); ok || len(env) != 0 || e != c.want {
			t.Errorf("case %d: %v, %v, %d, not %d", i, ok, env, e, c.want)
		}
		if ok, env, e := exhaust.Equal(read(c.a), read(c.b)); len(c.hyps) == 0 && (ok || len(env) != 0 || e != c.want) {
			t.Errorf("case %d: %v, %v, %d, not %d", i, ok, env, e, c.want)
		}
	}
	for _, s := range []string{"x:2", "(add x:8 y:8)", "3:64"} {
		ok, env, e := exhaust.Sat(read(s))
		n, e2 := exhaust.Count(read(s))
		if ok || len(env) != 0 || e != api.ErrWidth || n != 0 || e2 != api.ErrWidth {
			t.Errorf("Sat or Count of %s: %v, %v, %d, %d, %d", s, ok, env, e, n, e2)
		}
	}
}

// allAssignments returns the assignments of variables in increasing order of names.
func allAssignments(vars []api.Var) [][]api.Bind {
	list := [][]api.Bind{nil}
	for _, v := range vars {
		var longer [][]api.Bind
		for val := range uint64(1) << v.Width {
			for _, env := range list {
				longer = append(longer, append(slices.Clone(env), api.Bind{Name: v.Name, Val: val}))
			}
		}
		list = longer
	}
	return list
}

// varsOf returns the variables of terms in increasing order of names.
func varsOf(l ...api.Term) []api.Var {
	return term.Vars(api.Term{Args: l})
}

// wantValid evaluates the terms under all assignments.
func wantValid(hyps []api.Term, a, b api.Term) (bool, []api.Bind) {
	value := func(t api.Term, env []api.Bind) uint64 {
		x, e := eval.Eval(t, env)
		if e != api.OK {
			panic(fmt.Sprint(t, " has the error ", e))
		}
		return x
	}
	for _, env := range allAssignments(varsOf(append(slices.Clone(hyps), a, b)...)) {
		holds := !slices.ContainsFunc(hyps, func(h api.Term) bool { return value(h, env) != 1 })
		if holds && value(a, env) != value(b, env) {
			return false, env
		}
	}
	return true, nil
}

// someTerms returns valid terms over a few variables.
func someTerms(size, most int) []api.Term {
	g := api.Grammar{Vars: []api.Var{{Name: "x", Width: 2}, {Name: "a", Width: 2}, {Name: "m", Width: 1}}, Consts: []api.Word{{Width: 2, Val: 1}, {Width: 1}}, Size: size, Most: most}
	for op := api.OpNot; op <= api.OpConcat; op++ {
		g.Ops = append(g.Ops, op)
	}
	terms, _ := enum.Terms(g)
	return terms
}

// TestEqual checks P11.2 for Equal, and that it is an equivalence relation (P11.4).
func TestEqual(t *testing.T) {
	terms := someTerms(3, 1000)
	step := 3
	equal, different := 0, 0
	for i := 0; i < len(terms); i += step {
		a := terms[i]
		if ok, env, e := exhaust.Equal(a, a); !ok || len(env) != 0 || e != api.OK {
			t.Fatalf("%v does not equal itself: %v, %v, %d", a, ok, env, e)
		}
		for k := i % step; k < len(terms); k += step {
			b := terms[k]
			if a.Width != b.Width {
				continue
			}
			want, wantEnv := wantValid(nil, a, b)
			ok, env, e := exhaust.Equal(a, b)
			if ok != want || !slices.Equal(env, wantEnv) || e != api.OK {
				t.Fatalf("Equal(%v, %v) is %v, %v, %d, not %v, %v", a, b, ok, env, e, want, wantEnv)
			}
			if back, backEnv, _ := exhaust.Equal(b, a); back != ok || !slices.Equal(env, backEnv) {
				t.Fatalf("Equal(%v, %v) is not Equal of both in the other order", a, b)
			}
			if ok {
				equal++
			} else {
				different++
			}
		}
	}
	if equal < 200 || different < 200 {
		t.Error(equal, different)
	}
}

// TestCongruence checks P11.4: Equal is transitive and a congruence, and Valid without hypotheses is Equal.
func TestCongruence(t *testing.T) {
	a, b, c := read("(add x:2 y:2)"), read("(sub y:2 (neg x:2))"), read("(sub x:2 (neg y:2))")
	for _, pair := range [][2]api.Term{
		{a, b}, {b, c}, {a, c}, {term.Make(api.OpNot, a), term.Make(api.OpNot, c)}, {term.Make(api.OpMul, a, c), term.Make(api.OpMul, b, a)}, {term.Make(api.OpConcat, a, b), term.Make(api.OpConcat, c, c)}, {term.Make(api.OpUlt, a, read("x:2")), term.Make(api.OpUlt, c, read("x:2"))},
	} {
		if ok, env, e := exhaust.Equal(pair[0], pair[1]); !ok || len(env) != 0 || e != api.OK {
			t.Errorf("%v and %v: %v, %v, %d", pair[0], pair[1], ok, env, e)
		}
		if ok, env, e := exhaust.Valid([]api.Term{}, pair[0], pair[1]); !ok || len(env) != 0 || e != api.OK {
			t.Errorf("Valid without hypotheses of %v and %v: %v, %v, %d", pair[0], pair[1], ok, env, e)
		}
	}
}

// TestValid checks P11.2 for Valid.
func TestValid(t *testing.T) {
	terms := someTerms(4, 5000)
	var tests []api.Term
	for _, u := range terms {
		if u.Width == 1 {
			tests = append(tests, u)
		}
	}
	valid, refuted := 0, 0
	for i := range 3000 {
		a, b := terms[i*17%len(terms)], terms[i*5%len(terms)]
		for ; a.Width != b.Width; i++ {
			b = terms[i*5%len(terms)]
		}
		hyps := []api.Term{tests[i%len(tests)], tests[i*7%len(tests)], tests[i*i%len(tests)]}[:i%4]
		want, wantEnv := wantValid(hyps, a, b)
		before := fmt.Sprint(hyps)
		ok, env, e := exhaust.Valid(hyps, a, b)
		if ok != want || !slices.Equal(env, wantEnv) || e != api.OK {
			t.Fatalf("Valid(%v, %v, %v) is %v, %v, %d, not %v, %v", hyps, a, b, ok, env, e, want, wantEnv)
		}
		if fmt.Sprint(hyps) != before {
			t.Fatal("the hypotheses are changed")
		}
		if ok {
			valid++
		} else {
			refuted++
		}
	}
	if valid < 300 || refuted < 300 {
		t.Error(valid, refuted)
	}
}

// TestValidCases checks P11.2 for hypotheses that contradict each other, or have variables of their own.
func TestValidCases(t *testing.T) {
	bind := func(name string, val uint64) api.Bind { return api.Bind{Name: name, Val: val} }
	for i, c := range []struct {
		hyps []string
		a, b string
		want bool
		env  []api.Bind
	}{
		{[]string{"(eq (and x:2 1:2) 1:2)"}, "(sub x:2 1:2)", "(xor x:2 1:2)", true, nil}, {nil, "(sub x:2 1:2)", "(xor x:2 1:2)", false, []api.Bind{bind("x", 0)}},
		{[]string{"0:1"}, "1:8", "2:8", true, nil}, {[]string{"1:1"}, "1:8", "2:8", false, nil}, {[]string{"(ult x:2 y:2)", "(ult y:2 x:2)"}, "x:2", "3:2", true, nil}, {[]string{"(ult x:2 y:2)", "(ult y:2 3:2)"}, "x:2", "0:2", false, []api.Bind{bind("x", 1), bind("y", 2)}},
		{[]string{"(eq y:2 2:2)"}, "x:2", "0:2", false, []api.Bind{bind("x", 1), bind("y", 2)}}, {[]string{"(eq a:2 2:2)"}, "x:2", "0:2", false, []api.Bind{bind("a", 2), bind("x", 1)}}, {[]string{"(eq (zext 12 w:3) 6:12)"}, "1:8", "2:8", false, []api.Bind{bind("w", 6)}},
		{nil, "x:4", "(sub y:4 z:4)", false, []api.Bind{bind("x", 1), bind("y", 0), bind("z", 0)}}, {nil, "(and z:1 y:1)", "(or z:1 y:1)", false, []api.Bind{bind("y", 1), bind("z", 0)}}, {nil, "(add x:4 x:4)", "(shl x:4 1:4)", true, nil}, {nil, "3:8", "4:8", false, nil}, {nil, "3:64", "(add 1:64 2:64)", true, nil},
	} {
		if ok, env, e := exhaust.Valid(readAll(c.hyps...), read(c.a), read(c.b)); ok != c.want || !slices.Equal(env, c.env) || e != api.OK {
			t.Errorf("case %d: %v, %v, %d", i, ok, env, e)
		}
	}
}

// TestSatCount checks P11.3.
func TestSatCount(t *testing.T) {
	some, none := 0, 0
	for i, u := range someTerms(4, 5000) {
		if u.Width != 1 || i%3 != 0 {
			continue
		}
		var want [][]api.Bind
		for _, env := range allAssignments(varsOf(u)) {
			if x, _ := eval.Eval(u, env); x == 1 {
				want = append(want, env)
			}
		}
		var first []api.Bind
		if len(want) > 0 {
			first = want[0]
			some++
		} else {
			none++
		}
		if ok, env, e := exhaust.Sat(u); ok != (len(want) > 0) || !slices.Equal(env, first) || e != api.OK {
			t.Fatalf("Sat of %v is %v, %v, %d, not %v", u, ok, env, e, first)
		}
		if n, e := exhaust.Count(u); n != len(want) || e != api.OK {
			t.Fatalf("Count of %v is %d, %d, not %d", u, n, e, len(want))
		}
	}
	if some < 100 || none < 20 {
		t.Error(some, none)
	}
	odd := read("(eq (and x:2 1:2) 1:2)")
	if ok, env, e := exhaust.Sat(odd); !ok || !slices.Equal(env, []api.Bind{{Name: "x", Val: 1}}) || e != api.OK {
		t.Error("the example:", ok, env, e)
	}
	if n, e := exhaust.Count(odd); n != 2 || e != api.OK {
		t.Error("the example:", n, e)
	}
	for s, want := range map[string]int{"0:1": 0, "1:1": 1, "(or b:1 (not b:1))": 2, "(eq x:16 0:16)": 1, "(ult x:8 y:8)": 255 * 128, "(ult x:16 40000:16)": 40000} {
		if n, e := exhaust.Count(read(s)); n != want || e != api.OK {
			t.Errorf("Count of %s is %d, %d", s, n, e)
		}
		if ok, env, e := exhaust.Sat(read(s)); ok != (want > 0) || e != api.OK || len(env) != min(want, 1)*len(term.Vars(read(s))) {
			t.Errorf("Sat of %s is %v, %v, %d", s, ok, env, e)
		}
	}
}

// TestLimit checks that 16 bits are not too many, and that the last assignment counts (P11.2).
func TestLimit(t *testing.T) {
	x, last := read("x:16"), read("(ult x:16 65535:16)")
	if ok, env, e := exhaust.Equal(last, read("1:1")); ok || !slices.Equal(env, []api.Bind{{Name: "x", Val: 65535}}) || e != api.OK {
		t.Error("the last assignment:", ok, env, e)
	}
	if ok, env, e := exhaust.Equal(term.Make(api.OpMul, x, read("3:16")), term.Make(api.OpAdd, x, term.Make(api.OpAdd, x, x))); !ok || len(env) != 0 || e != api.OK {
		t.Error("a product:", ok, env, e)
	}
	all, ones := read("1:1"), []api.Bind(nil)
	for i := range 16 {
		all = term.Make(api.OpAnd, term.Var(fmt.Sprintf("v%02d", 15-i), 1), all)
		ones = append(ones, api.Bind{Name: fmt.Sprintf("v%02d", i), Val: 1})
	}
	if ok, env, e := exhaust.Sat(all); !ok || !slices.Equal(env, ones) || e != api.OK {
		t.Error("16 variables:", ok, env, e)
	}
	if n, e := exhaust.Count(all); n != 1 || e != api.OK {
		t.Error("16 variables:", n, e)
	}
}
