package termtext_test

import (
	"math"
	"strings"
	"testing"

	"saturate/api"
	"saturate/enum"
	"saturate/opinfo"
	"saturate/sexpr"
	"saturate/term"
	"saturate/termtext"
)

func leaf(op api.Op, name string, width int) api.Term {
	return api.Term{Op: op, Width: width, Name: name}
}

func constant(val uint64, width int) api.Term {
	return api.Term{Op: api.OpConst, Width: width, Val: val}
}

func node(op api.Op, width int, args ...api.Term) api.Term {
	return api.Term{Op: op, Width: width, Args: args}
}

// extract returns the bits of t from low on.
func extract(low uint64, width int, t api.Term) api.Term {
	return api.Term{Op: api.OpExtract, Width: width, Val: low, Args: []api.Term{t}}
}

var (
	x, y = leaf(api.OpVar, "x", 8), leaf(api.OpVar, "y", 8)
	bit  = leaf(api.OpVar, "b", 1)
	hole = leaf(api.OpHole, "h", 0)
	num  = leaf(api.OpNum, "n", 0)
)

// notations has terms and patterns of all kinds by their texts.
func notations() map[string]api.Term {
	m := map[string]api.Term{
		"x:8": x, "a_0:64": leaf(api.OpVar, "a_0", 64), "abcdefghijklmnop:1": leaf(api.OpVar, "abcdefghijklmnop", 1), "x:0": leaf(api.OpVar, "x", 0),
		"0:1": constant(0, 1), "5:8": constant(5, 8), "255:8": constant(255, 8), "18446744073709551615:64": constant(math.MaxUint64, 64), "10:0": constant(10, 0), "18446744073709551615:0": constant(math.MaxUint64, 0),
		"?x:8": leaf(api.OpHole, "x", 8), "?h:0": hole, "#x:8": leaf(api.OpNum, "x", 8), "#n:0": num,
		"(extract 0 8 x:8)": extract(0, 8, x), "(extract 4 4 x:8)": extract(4, 4, x), "(extract 63 1 x:64)": extract(63, 1, leaf(api.OpVar, "x", 64)), "(extract 0 1 ?h:1)": extract(0, 1, leaf(api.OpHole, "h", 1)),
		"(zext 8 x:8)": node(api.OpZext, 8, x), "(zext 64 x:8)": node(api.OpZext, 64, x), "(sext 9 x:8)": node(api.OpSext, 9, x), "(sext 64 b:1)": node(api.OpSext, 64, bit),
		"(ite b:1 x:8 y:8)": node(api.OpIte, 8, bit, x, y), "(ite (ult x:8 y:8) ?h:0 ?h:0)": node(api.OpIte, 0, node(api.OpUlt, 1, x, y), hole, hole), "(concat x:8 b:1)": node(api.OpConcat, 9, x, bit),
		"(eval (add #n:0 1:0))": node(api.OpEval, 0, node(api.OpAdd, 0, num, constant(1, 0))), "(eq ?h:0 #n:0)": node(api.OpEq, 1, hole, num),
		"(sub (mul x:8 y:8) (not (extract 1 8 (zext 9 x:8))))": node(api.OpSub, 8, node(api.OpMul, 8, x, y), node(api.OpNot, 8, extract(1, 8, node(api.OpZext, 9, x)))),
	}
	for op := api.OpNot; op <= api.OpSlt; op++ {
		width := 8
		if op >= api.OpEq {
			width = 1
		}
		if opinfo.Arity(op) == 1 {
			m["("+opinfo.Name(op)+" x:8)"] = node(op, width, x)
		} else {
			m["("+opinfo.Name(op)+" x:8 y:8)"] = node(op, width, x, y)
		}
	}
	return m
}

// TestNotation checks P7.1 and P7.2 for texts without errors.
func TestNotation(t *testing.T) {
	for text, want := range notations() {
		got, e := termtext.Parse(text)
		if e != api.OK || !term.Same(got, want) {
			t.Errorf("Parse of %s is %v, %d", text, got, e)
		}
		if s := termtext.Print(want); s != text {
			t.Errorf("Print of %v is %s, not %s", want, s, text)
		}
		s, _, _ := sexpr.Parse(text)
		if !sexpr.Same(termtext.Write(want), s) {
			t.Errorf("Write of %v is %v", want, termtext.Write(want))
		}
		if got, e = termtext.Read(s); e != api.OK || !term.Same(got, want) {
			t.Errorf("Read of %v is %v, %d", s, got, e)
		}
	}
	if got, e := termtext.Parse(" ( add\tx:8 ; sum\n( not\ty:8 ) ) "); e != api.OK || !term.Same(got, node(api.OpAdd, 8, x, node(api.OpNot, 8, y))) {
		t.Error("blanks and comments:", got, e)
	}
}

// badTexts has texts with one error, or several in one atom or one list.
func badTexts() map[api.Errno][]string {
	return map[api.Errno][]string{
		api.ErrParse: {
			"", " ", "x:8 y:8", "(not x:8", "not x:8)", "x", "5", "?x", "x:", ":", "x:8:", ":8:8", "x::8", "x:y", "x:08", "x:00", "x:-1", "x:+8", "x:0x8", "x:8.", "?x:8:8", "5:8:8", "5:0x8", "5:", "5:x", "X:y", ":y", "X:",
			"05:8", "00:8", "0x5:8", "5x:8", "5_:8", "5?:8", "1x:99", "5-:8", "18446744073709551616x:8", "0x10000000000000000:64",
			"()", "(())", "((not) x:8)", "(x:8)", "(x:8 y:8)", "(var x:8)", "(var)", "(const 5:8)", "(const)", "(hole x:8)", "(num)", "(plus x:8 y:8)", "(NOT x:8)", "(Add x:8 y:8)", "(5 x:8)", "(? x:8)",
			"(not)", "(not x:8 y:8)", "(add)", "(add x:8)", "(add x:8 y:8 x:8)", "(ite b:1 x:8)", "(ite b:1 x:8 y:8 y:8)", "(eval)", "(eval 1:8 1:8)", "(concat x:8)", "(concat x:8 x:8 x:8)",
			"(extract 4 x:8)", "(extract x:8)", "(extract 0 4 x:8 y:8)", "(extract 0 4)", "(zext x:8)", "(zext 9 x:8 y:8)", "(sext 9)", "(not 8 x:8)",
			"(extract 04 4 x:8)", "(extract 0x4 4 x:8)", "(extract -1 4 x:8)", "(extract x:8 4 x:8)", "(extract (4) 4 x:8)", "(extract () 4 x:8)", "(extract 4 04 x:8)", "(extract 4 y:8 x:8)", "(extract 4 () x:8)", "(zext 08 x:8)", "(zext () x:8)", "(sext +9 x:8)", "(sext 0x9 x:8)",
		},
		api.ErrName: {
			":8", "X:8", "?:8", "#:8", "?X:8", "#9:8", "?9:8", "??x:8", "?#x:8", "#?x:8", "##x:8", "x?:8", "_x:8", "-5:8", "abcdefghijklmnopq:8", "?abcdefghijklmnopq:8", "x-y:8", "x.y:8", "X:65", ":18446744073709551616",
		},
		api.ErrRange: {
			"x:65", "?x:65", "#x:99", "x:18446744073709551616", "5:65", "5:18446744073709551616", "18446744073709551616:64", "99999999999999999999999:0", "18446744073709551616:65", "300:65",
			"(extract 18446744073709551616 4 x:8)", "(extract 0 65 x:8)", "(extract 0 18446744073709551616 x:8)", "(zext 65 x:8)", "(sext 99 x:8)",
		},
		api.ErrWidth: {
			"256:8", "2:1", "9223372036854775808:63", "(add x:8 y:4)", "(eq x:8 b:1)", "(ult ?h:0 x:8)", "(ite x:8 y:8 y:8)", "(ite b:1 x:8 b:1)", "(ite ?h:0 x:8 y:8)", "(concat x:60 y:5)", "(concat ?h:0 x:8)",
			"(extract 5 4 x:8)", "(extract 0 9 x:8)", "(extract 0 0 x:8)", "(extract 18446744073709551615 1 x:8)", "(extract 0 1 ?h:0)", "(zext 7 x:8)", "(zext 8 ?h:0)", "(sext 0 x:8)",
		},
	}
}

// TestErrors checks the errors of P7.1.
func TestErrors(t *testing.T) {
	for want, texts := range badTexts() {
		for _, s := range texts {
			if got, e := termtext.Parse(s); e != want || !term.Same(got, api.Term{}) {
				t.Errorf("Parse of %q is %v, %d, not %d", s, got, e, want)
			}
			// An error comes before those of what follows it.
			if got, e := termtext.Parse("(add " + s + " X)"); isWhole(s) && (e != want || !term.Same(got, api.Term{})) {
				t.Errorf("Parse of %q as an operand is %v, %d, not %d", s, got, e, want)
			}
		}
	}
}

// isWhole reports whether s is one s-expression.
func isWhole(s string) bool {
	_, _, e := sexpr.Parse(s)
	return e == api.OK
}

// TestErrorOrder checks which of several errors P7.1 wants.
func TestErrorOrder(t *testing.T) {
	for s, want := range map[string]api.Errno{
		"(add X:8)": api.ErrParse, "(plus X:8 x:99)": api.ErrParse, "(add X:8 y)": api.ErrName, "(add y X:8)": api.ErrParse, "(add x:65 X:8)": api.ErrRange, "(add 256:8 x:65)": api.ErrWidth, "(add x:8 x:65)": api.ErrRange,
		"(add (add x:8 y:4) X:8)": api.ErrWidth, "(add X:8 (add x:8 y:4))": api.ErrName, "(eq (not 256:8) (add X:8))": api.ErrWidth, "(eq x:8 (add X:8))": api.ErrParse, "(add x:8 (eq y:4 X:8))": api.ErrName, "(add x:4 (ite y:8 256:8 X:8))": api.ErrWidth,
		"(extract 18446744073709551616 x X:8)": api.ErrRange, "(extract x 65 X:8)": api.ErrParse, "(extract 9 65 X:8)": api.ErrRange, "(extract 9 4 X:8)": api.ErrName, "(extract 9 4 256:8)": api.ErrWidth, "(zext 65 X:8)": api.ErrRange, "(zext 4 X:8)": api.ErrName, "(zext 4 (not))": api.ErrParse, "(sext 9 8 X:8)": api.ErrParse, "(extract 65 X:8)": api.ErrParse,
	} {
		if got, e := termtext.Parse(s); e != want || !term.Same(got, api.Term{}) {
			t.Errorf("Parse of %s is %v, %d, not %d", s, got, e, want)
		}
	}
}

// TestParseLimits checks that Parse returns the errors of sexpr.Parse first (P7.1).
func TestParseLimits(t *testing.T) {
	nested := func(depth int) string {
		return strings.Repeat("(not ", depth-1) + "x:8" + strings.Repeat(")", depth-1)
	}
	if got, e := termtext.Parse(nested(64)); e != api.OK || term.Depth(got) != 64 {
		t.Error("depth 64:", e)
	}
	for s, want := range map[string]api.Errno{nested(65): api.ErrLong, "(plus X " + nested(64) + ")": api.ErrLong, "x:8" + strings.Repeat(" ", 65534): api.ErrLong, "x:8" + strings.Repeat(" ", 65533): api.OK, "(plus X:8": api.ErrParse, "X:8 \xff": api.ErrParse} {
		if _, e := termtext.Parse(s); e != want {
			t.Errorf("Parse of %.20s.. is %d, not %d", s, e, want)
		}
	}
}

func atom(s string) api.Sexp {
	return api.Sexp{Atom: s}
}

func list(l ...api.Sexp) api.Sexp {
	return api.Sexp{List: l}
}

// TestRead checks P7.1 for s-expressions that no text has.
func TestRead(t *testing.T) {
	withList := func(s string) api.Sexp { return api.Sexp{Atom: s, List: []api.Sexp{atom("?")}} }
	for i, c := range []struct {
		e    api.Sexp
		want api.Errno
	}{
		{api.Sexp{}, api.ErrParse}, {withList("x:8"), api.OK}, {list(withList("not"), withList("x:8")), api.OK}, {list(withList("zext"), withList("8"), withList("x:8")), api.OK}, {atom("x y:8"), api.ErrName}, {atom("x:8 "), api.ErrParse}, {atom(" x:8"), api.ErrName}, {atom("x\x00:8"), api.ErrName},
		{atom("5 :8"), api.ErrParse}, {atom("(:8"), api.ErrName}, {atom("\u00e9:8"), api.ErrName}, {atom("\xff"), api.ErrParse}, {list(atom("add "), atom("x:8"), atom("y:8")), api.ErrParse}, {list(atom("not"), api.Sexp{}), api.ErrParse}, {list(atom("not"), list(atom("not"), atom("X:8"))), api.ErrName},
	} {
		got, e := termtext.Read(c.e)
		if e != c.want || e != api.OK && !term.Same(got, api.Term{}) {
			t.Errorf("case %d: %v, %d, not %d", i, got, e, c.want)
		}
	}
	deep, want := atom("x:8"), x
	for range 1000 {
		deep, want = list(atom("neg"), deep), node(api.OpNeg, 8, want)
	}
	if got, e := termtext.Read(deep); e != api.OK || !term.Same(got, want) {
		t.Error("a deep s-expression:", e)
	}
	if got, e := termtext.Parse("(concat x:8 x:4)"); e != api.OK || !term.Same(got, node(api.OpConcat, 12, x, leaf(api.OpVar, "x", 4))) {
		t.Error("a variable with two widths:", got, e)
	}
}

// TestNoNotation checks P7.2 for nodes that have no notation.
func TestNoNotation(t *testing.T) {
	with := func(t api.Term, change func(t *api.Term)) api.Term {
		change(&t)
		return t
	}
	value := func(t *api.Term) { t.Val = 1 }
	name := func(t *api.Term) { t.Name = "z" }
	arg := func(t *api.Term) { t.Args = []api.Term{y} }
	bad := []api.Term{{}, {Op: 27}, {Op: -1}, {Op: math.MaxInt}, {Op: 27, Args: []api.Term{x}}, leaf(api.OpVar, "", 8), leaf(api.OpVar, "X", 8), leaf(api.OpHole, "", 8), leaf(api.OpHole, "?x", 8), leaf(api.OpNum, "9", 8), with(constant(5, 8), name), with(constant(5, 8), arg)}
	for _, t := range []api.Term{x, leaf(api.OpHole, "x", 8), leaf(api.OpNum, "x", 8)} {
		bad = append(bad, with(t, value), with(t, arg))
	}
	for op := api.OpNot; op <= api.OpSext; op++ {
		n := opinfo.Arity(op)
		args := []api.Term{x, x, x, x}
		bad = append(bad, with(node(op, 8, args[:n]...), name), node(op, 8, args[:n+1]...), node(op, 8, args[:n-1]...))
		if op != api.OpExtract {
			bad = append(bad, with(node(op, 8, args[:n]...), value))
		}
	}
	bad = append(bad, node(api.OpEval, 8), with(node(api.OpEval, 8, x), value), with(node(api.OpEval, 8, x), name))
	for _, text := range []string{"x:8", "5:8", "?x:8", "#x:8", "(not x:8)", "(extract 0 8 x:8)", "(zext 8 x:8)", "(eval 1:8)"} {
		t, _ := termtext.Parse(text)
		for _, width := range []int{-1, 65, math.MinInt, math.MaxInt} {
			bad = append(bad, with(t, func(t *api.Term) { t.Width = width }))
		}
	}
	for _, u := range bad {
		if s := termtext.Write(u); !sexpr.Same(s, atom("?")) || termtext.Print(u) != "?" {
			t.Errorf("Write of %v is %v", u, s)
		}
		if s := termtext.Print(node(api.OpAdd, 3, x, u)); s != "(add x:8 ?)" {
			t.Errorf("%v as an operand: %s", u, s)
		}
	}
}

// TestInvalidWrite checks that P7.2 asks only for a notation, not for a valid term.
func TestInvalidWrite(t *testing.T) {
	for text, u := range map[string]api.Term{"300:8": constant(300, 8), "(add x:8 b:1)": node(api.OpAdd, 64, x, bit), "(zext 0 x:8)": node(api.OpZext, 0, x), "(extract 18446744073709551615 64 x:8)": extract(math.MaxUint64, 64, x), "(eval ?h:0)": node(api.OpEval, 5, hole), "(ite x:8 y:8 b:1)": node(api.OpIte, 0, x, y, bit)} {
		if s := termtext.Print(u); s != text {
			t.Errorf("Print of %v is %s, not %s", u, s, text)
		}
	}
}

// someTerms returns terms of a grammar with all operators that it can have, and
// the other operators on top of some of them.
func someTerms() []api.Term {
	g := api.Grammar{Vars: []api.Var{{Name: "x", Width: 8}, {Name: "b", Width: 1}}, Consts: []api.Word{{Width: 8, Val: 9}}, Size: 5, Most: 2500}
	for op := api.OpNot; op <= api.OpConcat; op++ {
		g.Ops = append(g.Ops, op)
	}
	terms, _ := enum.Terms(g)
	for i, t := range terms[:300] {
		terms = append(terms, node(api.OpZext, t.Width+i%7, t), node(api.OpSext, t.Width+i%7+1, t), extract(uint64(i%t.Width), 1, t), extract(0, i%t.Width+1, t))
	}
	return terms
}

// TestRoundTrip checks P7.3.
func TestRoundTrip(t *testing.T) {
	seen := map[string]api.Term{}
	for _, u := range someTerms() {
		text := termtext.Print(u)
		if other, ok := seen[text]; ok && !term.Same(u, other) {
			t.Fatalf("two terms are %s", text)
		}
		seen[text] = u
		if got, e := termtext.Parse(text); e != api.OK || !term.Same(got, u) {
			t.Fatalf("%s is read as %v, %d", text, got, e)
		}
	}
}
