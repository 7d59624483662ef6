package term_test

import (
	"math"
	"slices"
	"strings"
	"testing"

	"saturate/api"
	"saturate/opinfo"
	"saturate/term"
)

func node(op api.Op, width int, args ...api.Term) api.Term {
	return api.Term{Op: op, Width: width, Args: args}
}

func variable(name string, width int) api.Term {
	return api.Term{Op: api.OpVar, Width: width, Name: name}
}

func constant(width int, val uint64) api.Term {
	return api.Term{Op: api.OpConst, Width: width, Val: val}
}

// extract returns the bits of t from low on.
func extract(width int, low uint64, t api.Term) api.Term {
	return api.Term{Op: api.OpExtract, Width: width, Val: low, Args: []api.Term{t}}
}

// chain returns a term that consists of a variable and operators not, with the given number of nodes.
func chain(nodes int) api.Term {
	t := variable("x", 8)
	for range nodes - 1 {
		t = node(api.OpNot, 8, t)
	}
	return t
}

// tree returns a full binary tree of the given depth, whose nodes share memory.
func tree(depth int) api.Term {
	t := variable("x", 8)
	for range depth - 1 {
		t = node(api.OpAdd, 8, t, t)
	}
	return t
}

var (
	x, y = variable("x", 8), variable("y", 8)
	sum  = node(api.OpAdd, 8, x, constant(8, 1))
)

// validTerms has valid terms with all operators, and no two of them are the same.
func validTerms() []api.Term {
	list := []api.Term{x, y, variable("x", 4), constant(8, 0), constant(8, 1), constant(8, 255), constant(64, math.MaxUint64), constant(1, 1), sum, chain(9), chain(64), tree(6)}
	for op := api.OpNot; op <= api.OpAshr; op++ {
		if opinfo.Arity(op) == 1 {
			list = append(list, node(op, 8, x), node(op, 8, sum))
		} else {
			list = append(list, node(op, 8, x, y), node(op, 8, y, x), node(op, 8, sum, x), node(op, 8, x, sum), node(op, 8, sum, sum))
		}
	}
	test := node(api.OpUlt, 1, x, y)
	return append(list, test, node(api.OpEq, 1, x, sum), node(api.OpSlt, 1, sum, x), node(api.OpIte, 8, test, x, y), node(api.OpIte, 8, test, y, x),
		node(api.OpConcat, 16, x, y), node(api.OpConcat, 64, variable("z", 56), x), extract(4, 0, x), extract(4, 4, x), extract(8, 0, x),
		node(api.OpZext, 8, x), node(api.OpZext, 64, x), node(api.OpSext, 8, x), node(api.OpSext, 9, extract(1, 7, sum)))
}

// invalidTerms has terms of all kinds that are not valid, by what Check has to return.
func invalidTerms() map[api.Errno][]api.Term {
	named := node(api.OpNot, 8, x)
	named.Name = "n"
	valued := node(api.OpAdd, 8, x, y)
	valued.Val = 1
	return map[api.Errno][]api.Term{
		api.ErrOp: {
			{}, {Op: 27, Width: 8}, {Op: -1, Width: 8}, {Op: math.MaxInt, Width: 8}, {Op: 256 + api.OpVar, Width: 8, Name: "x"}, {Op: api.OpHole, Width: 8, Name: "a"}, {Op: api.OpNum, Width: 8, Name: "a"}, node(api.OpEval, 8, x),
			node(api.OpNot, 8), node(api.OpNot, 8, x, x), node(api.OpAdd, 8, x), node(api.OpAdd, 8, x, x, x), node(api.OpIte, 8, x, x), node(api.OpVar, 8, x), node(api.OpConst, 8, x), named, valued,
			{Op: api.OpConst, Width: 8, Val: 1, Name: "x"}, {Op: api.OpVar, Width: 8, Name: "x", Val: 1}, {Op: api.OpZext, Width: 8, Val: 1, Args: []api.Term{x}}, {Op: api.OpExtract, Width: 8, Name: "x", Args: []api.Term{x}},
		},
		api.ErrName: {{Op: api.OpVar, Width: 8}, variable("X", 8), variable("x y", 8), variable("1x", 8), variable("_x", 8), variable("abcdefghijklmnopq", 8), variable("", 0), node(api.OpNot, 8, variable("", 8))},
		api.ErrWidth: {
			variable("x", 0), variable("x", -1), variable("x", 65), variable("x", math.MinInt), constant(0, 0), constant(-8, 0), constant(65, 0), constant(4, 16), constant(63, 1<<63), node(api.OpNot, 4, x), node(api.OpNot, 0, variable("x", 8)),
			node(api.OpAdd, 8, x, variable("y", 4)), node(api.OpAdd, 8, variable("x", 4), variable("y", 4)), node(api.OpAdd, 0, x, y), node(api.OpEq, 8, x, y), node(api.OpEq, 1, x, variable("y", 4)), node(api.OpIte, 8, x, x, y),
			node(api.OpConcat, 8, x, y), node(api.OpConcat, 65, variable("v", 60), variable("w", 5)), extract(4, 5, x), extract(0, 0, x), extract(9, 0, x), extract(4, math.MaxUint64, x), node(api.OpZext, 7, x), node(api.OpZext, 65, x), node(api.OpSext, 0, x),
		},
		api.ErrBind: {node(api.OpConcat, 12, x, variable("x", 4)), node(api.OpIte, 8, node(api.OpEq, 1, variable("y", 3), variable("z", 3)), x, y)},
		api.ErrLong: {chain(65), chain(5000), tree(13), node(api.OpAnd, 8, tree(12), x), tree(100), {Args: make([]api.Term, 4096)}, {Op: api.OpAdd, Args: make([]api.Term, 1<<20)}},
	}
}

// manyTerms has terms of all kinds, no two of them the same.
func manyTerms() []api.Term {
	list := validTerms()
	for e, l := range invalidTerms() {
		if e != api.ErrLong {
			list = append(list, l...)
		}
	}
	return append(list, chain(65), chain(100), tree(9), node(api.OpAnd, 8, tree(5), x, tree(7)), node(api.OpVar, 3, x, y, sum), api.Term{Op: api.OpConst, Width: -3, Val: 9, Name: "\xff", Args: []api.Term{x, {}}})
}

// TestCheck checks P6.1 for terms with one error or none.
func TestCheck(t *testing.T) {
	for _, u := range validTerms() {
		if e := term.Check(u); e != api.OK {
			t.Errorf("Check of %v is %d", u, e)
		}
	}
	for want, l := range invalidTerms() {
		for i, u := range l {
			if e := term.Check(u); e != want {
				t.Errorf("Check of term %d with error %d is %d", i, want, e)
			}
		}
	}
}

// TestCheckOrder checks which of several errors P6.1 wants.
func TestCheckOrder(t *testing.T) {
	badOp, badName, badWidth := api.Term{}, variable("X", 8), constant(8, 256)
	bind := node(api.OpConcat, 12, x, variable("x", 4))
	for i, c := range []struct {
		t    api.Term
		want api.Errno
	}{
		{node(api.OpAdd, 8, badName, badOp), api.ErrName}, {node(api.OpAdd, 8, badOp, badName), api.ErrOp}, {node(api.OpAdd, 8, badWidth, badOp), api.ErrWidth}, {node(api.OpAdd, 8, badWidth, badName), api.ErrWidth},
		{node(api.OpAdd, 8, node(api.OpNot, 8, badWidth), badOp), api.ErrWidth}, {node(api.OpAdd, 8, x, node(api.OpNot, 8, badName)), api.ErrName}, {node(api.OpAdd, 8, badName), api.ErrName}, {api.Term{Op: 99, Args: []api.Term{badWidth}}, api.ErrWidth},
		{node(api.OpAdd, 8, bind, badOp), api.ErrOp}, {node(api.OpNot, 8, bind), api.ErrWidth}, {api.Term{Op: api.OpVar, Width: 0, Name: "X"}, api.ErrName}, {api.Term{Op: api.OpVar, Width: 0, Name: "X", Val: 1}, api.ErrOp},
		{node(api.OpNot, 8, chain(64)), api.ErrLong}, {node(api.OpAdd, 8, badOp, chain(64)), api.ErrLong}, {node(api.OpAdd, 8, badOp, tree(12)), api.ErrLong}, {api.Term{Op: 99, Args: []api.Term{chain(64), badName}}, api.ErrLong},
	} {
		if e := term.Check(c.t); e != c.want {
			t.Errorf("case %d: %d, not %d", i, e, c.want)
		}
	}
}

// TestCheckLimits checks the greatest size and depth of P6.1.
func TestCheckLimits(t *testing.T) {
	greatest := node(api.OpNot, 8, tree(12)) // 2^12 nodes
	if term.Size(greatest) != 4096 || term.Check(greatest) != api.OK || term.Check(node(api.OpNot, 8, greatest)) != api.ErrLong {
		t.Error("size")
	}
	if term.Check(chain(64)) != api.OK || term.Check(chain(65)) != api.ErrLong || term.Check(node(api.OpAdd, 8, x, chain(63))) != api.OK || term.Check(node(api.OpAdd, 8, chain(64), x)) != api.ErrLong {
		t.Error("depth")
	}
}

// TestName checks P6.1: Name.
func TestName(t *testing.T) {
	for _, s := range []string{"a", "z", "x0", "x_", "a_9z", "abcdefghijklmnop"} {
		if !term.Name(s) {
			t.Errorf("Name(%q)", s)
		}
	}
	for _, s := range []string{"", "_", "0", "9a", "_a", "A", "aB", "a b", "a-", "é", "aé", "a\x00", "abcdefghijklmnopq", strings.Repeat("a", 100000)} {
		if term.Name(s) {
			t.Errorf("Name(%q)", s)
		}
	}
	for c := range 256 {
		b := string([]byte{byte(c)})
		letter := c >= 'a' && c <= 'z'
		if term.Name(b) != letter || term.Name("a"+b) != (letter || c >= '0' && c <= '9' || c == '_') {
			t.Errorf("names with byte %d", c)
		}
	}
}

// TestVarConst checks P6.2: Var and Const.
func TestVarConst(t *testing.T) {
	for width, clamped := range map[int]int{math.MinInt: 1, -1: 1, 0: 1, 1: 1, 2: 2, 8: 8, 63: 63, 64: 64, 65: 64, math.MaxInt: 64} {
		if u := term.Var("x", width); !term.Same(u, variable("x", clamped)) {
			t.Errorf("Var of width %d: %v", width, u)
		}
		for _, val := range []uint64{0, 1, 2, 5, 255, 256, 257, 1<<63 - 1, 1 << 63, math.MaxUint64} {
			reduced := val
			if clamped < 64 {
				reduced = val % (1 << clamped)
			}
			if u := term.Const(width, val); !term.Same(u, constant(clamped, reduced)) {
				t.Errorf("Const of width %d and value %d: %v", width, val, u)
			}
		}
	}
	if u := term.Var("not a name", 8); u.Name != "not a name" {
		t.Error(u)
	}
}

// TestMake checks P6.2: Make.
func TestMake(t *testing.T) {
	if u := term.Make(api.OpAdd, x, constant(8, 1)); !term.Same(u, sum) {
		t.Error(u)
	}
	lists := [][]api.Term{nil, {x}, {x, y}, {x, variable("y", 4)}, {variable("a", 1), x, y}, {x, x, y}, {variable("a", 0)}, {variable("a", 0), variable("a", 0)}, {variable("a", -1)}, {variable("a", 65), variable("b", 65)}, {x, x, x, x}}
	for op := api.Op(-1); op <= 28; op++ {
		for _, args := range lists {
			var widths []int
			for _, a := range args {
				widths = append(widths, a.Width)
			}
			width, _ := opinfo.Width(op, 0, 0, widths)
			if u := term.Make(op, args...); !term.Same(u, api.Term{Op: op, Width: width, Args: args}) {
				t.Errorf("Make(%d) with %d operands: %v", op, len(args), u)
			}
		}
	}
	if u := term.Make(api.OpConcat, x, sum); u.Width != 16 {
		t.Error(u)
	}
	if u := term.Make(api.OpAdd, x, variable("y", 4)); u.Width != 0 || len(u.Args) != 2 || term.Check(u) != api.ErrWidth {
		t.Error(u)
	}
}

// paths returns the paths of all subterms in postorder.
func paths(t api.Term) [][]int {
	var list [][]int
	for i, a := range t.Args {
		for _, p := range paths(a) {
			list = append(list, append([]int{i}, p...))
		}
	}
	return append(list, nil)
}

// follow returns the subterm at a path, with the memory of t.
func follow(t api.Term, path []int) api.Term {
	for _, i := range path {
		t = t.Args[i]
	}
	return t
}

// TestSizeDepth checks P6.3: Size and Depth.
func TestSizeDepth(t *testing.T) {
	for _, u := range manyTerms() {
		size, depth := 0, 0
		for _, p := range paths(u) {
			size++
			depth = max(depth, len(p)+1)
		}
		if term.Size(u) != size || term.Depth(u) != depth {
			t.Errorf("size %d and depth %d, not %d and %d", term.Size(u), term.Depth(u), size, depth)
		}
	}
	if term.Size(sum) != 3 || term.Depth(sum) != 2 || term.Size(api.Term{}) != 1 || term.Depth(api.Term{}) != 1 || term.Size(chain(60000)) != 60000 || term.Depth(chain(60000)) != 60000 {
		t.Error("examples")
	}
}

// TestVars checks P6.3: Vars.
func TestVars(t *testing.T) {
	inner := node(api.OpVar, 5, variable("b", 1), variable("a", 2)) // not valid, but it has an order
	inner.Name = "b"
	constantNamed := constant(8, 1)
	constantNamed.Name = "c"
	for i, c := range []struct {
		t    api.Term
		want []api.Var
	}{
		{x, []api.Var{{Name: "x", Width: 8}}}, {constant(8, 1), nil}, {api.Term{}, nil}, {constantNamed, nil}, {node(api.OpAdd, 8, y, x), []api.Var{{Name: "x", Width: 8}, {Name: "y", Width: 8}}},
		{node(api.OpIte, 8, variable("b", 1), variable("a10", 3), variable("a9", 8)), []api.Var{{Name: "a10", Width: 3}, {Name: "a9", Width: 8}, {Name: "b", Width: 1}}},
		{node(api.OpAdd, 8, node(api.OpNot, 8, variable("x", 3)), variable("x", 4)), []api.Var{{Name: "x", Width: 3}}}, {node(api.OpAdd, 8, inner, variable("a", 9)), []api.Var{{Name: "a", Width: 2}, {Name: "b", Width: 5}}},
		{node(api.OpAdd, 8, variable("", -1), variable("\xff", 99)), []api.Var{{Name: "", Width: -1}, {Name: "\xff", Width: 99}}}, {api.Term{Op: api.OpHole, Width: 8, Name: "h"}, nil}, {tree(12), []api.Var{{Name: "x", Width: 8}}},
	} {
		if l := term.Vars(c.t); !slices.Equal(l, c.want) {
			t.Errorf("case %d: %v, not %v", i, l, c.want)
		}
	}
}

// TestSubterms checks P6.3: Subterms.
func TestSubterms(t *testing.T) {
	for i, u := range manyTerms() {
		var want []api.Term
		for _, p := range paths(u) {
			if s := follow(u, p); !slices.ContainsFunc(want, func(v api.Term) bool { return term.Same(v, s) }) {
				want = append(want, s)
			}
		}
		if l := term.Subterms(u); !slices.EqualFunc(l, want, term.Same) {
			t.Errorf("term %d has %d different subterms, not %d", i, len(l), len(want))
		}
	}
	product := node(api.OpMul, 8, sum, sum)
	if l := term.Subterms(product); !slices.EqualFunc(l, []api.Term{x, constant(8, 1), sum, product}, term.Same) {
		t.Error(l)
	}
}

// TestSubtermsFields checks that Subterms tells terms apart that differ in one part only.
func TestSubtermsFields(t *testing.T) {
	u := api.Term{Op: 1}
	for range 12 { // operands whose numbers have one digit and two
		u.Args = append(u.Args, constant(8, uint64(len(u.Args))))
	}
	for _, v := range []api.Term{{Op: 2, Width: 3, Val: 4, Name: "5"}, {Op: 23, Width: 4, Name: "5"}, {Op: 2, Width: 34, Name: "5"}, {Op: 2, Width: 3, Val: 45}, {Op: 2, Width: 3, Val: 4, Name: "5 "}, {Op: 2, Width: 3, Val: 4, Name: " 5"}, {Op: 2, Width: -3, Val: 4, Name: "5"}} {
		u.Args = append(u.Args, v, node(v.Op, v.Width, v), node(v.Op, v.Width, constant(8, 1), constant(8, 11)), node(v.Op, v.Width, constant(8, 11), constant(8, 1)), node(v.Op, v.Width, constant(8, 11), constant(8, 10)), node(v.Op, v.Width, constant(8, 1)))
	}
	want := 0
	for i, a := range u.Args {
		if !slices.ContainsFunc(u.Args[:i], func(b api.Term) bool { return term.Same(a, b) }) {
			want++
		}
	}
	if l := term.Subterms(u); len(l) != want+1 {
		t.Errorf("%d different subterms, not %d", len(l), want+1)
	}
}

// TestAll checks P6.3: All.
func TestAll(t *testing.T) {
	for i, u := range manyTerms() {
		all := term.All(u)
		places := paths(u)
		for range 2 { // an iterator can be used again
			n := 0
			for s := range all {
				if n >= len(places) || !term.Same(s, follow(u, places[n])) {
					t.Fatalf("term %d: subterm %d", i, n)
				}
				n++
			}
			if n != len(places) {
				t.Errorf("term %d: %d subterms, not %d", i, n, len(places))
			}
		}
	}
	for stop := 1; stop <= 7; stop++ {
		n := 0
		for range term.All(node(api.OpMul, 8, sum, sum)) {
			n++
			if n == stop {
				break
			}
		}
		if n != stop {
			t.Error("a loop that is left early", stop, n)
		}
	}
}
