package sexpr_test

import (
	"math/rand/v2"
	"slices"
	"strings"
	"testing"

	"saturate/api"
	"saturate/sexpr"
)

func atom(s string) api.Sexp {
	return api.Sexp{Atom: s}
}

func list(l ...api.Sexp) api.Sexp {
	return api.Sexp{List: l}
}

// nested returns a list of the given depth that contains nothing else.
func nested(depth int) api.Sexp {
	e := list()
	for range depth - 1 {
		e = list(e)
	}
	return e
}

func isAtomByte(c byte) bool {
	return c >= 33 && c <= 126 && !strings.Contains("();", string(c))
}

func isBlank(c byte) bool {
	return c == 32 || c == 9 || c == 10 || c == 13
}

// wantParseAll says what ParseAll has to return, and where the second
// s-expression begins. It keeps the open lists on a stack.
func wantParseAll(s string) (all []api.Sexp, starts []int, at int, e api.Errno) {
	open := []api.Sexp{{}}
	for i := 0; i < len(s); {
		start, depth := i, len(open)
		i++
		switch c := s[start]; {
		case isBlank(c):
		case c == ';':
			for i < len(s) && s[i] != 10 {
				i++
			}
		case c == '(' || isAtomByte(c):
			if depth > 64 {
				return nil, nil, start, api.ErrLong
			}
			if depth == 1 {
				starts = append(starts, start)
			}
			if c == '(' {
				open = append(open, api.Sexp{})
				continue
			}
			for i < len(s) && isAtomByte(s[i]) {
				i++
			}
			open[depth-1].List = append(open[depth-1].List, atom(s[start:i]))
		case c == ')' && depth > 1:
			open[depth-2].List = append(open[depth-2].List, open[depth-1])
			open = open[:depth-1]
		default:
			return nil, nil, start, api.ErrParse
		}
	}
	if len(open) > 1 {
		return nil, nil, len(s), api.ErrParse
	}
	return open[0].List, starts, 0, api.OK
}

func checkParse(t *testing.T, s string) {
	t.Helper()
	want, starts, wantAt, wantError := wantParseAll(s)
	l, at, e := sexpr.ParseAll(s)
	if !slices.EqualFunc(l, want, sexpr.Same) || at != wantAt || e != wantError {
		t.Errorf("ParseAll(%q) is %v, %d, %d, not %v, %d, %d", s, l, at, e, want, wantAt, wantError)
	}
	first := api.Sexp{}
	switch {
	case wantError != api.OK:
	case len(want) == 0:
		wantAt, wantError = len(s), api.ErrParse
	case len(want) > 1:
		wantAt, wantError = starts[1], api.ErrParse
	default:
		first = want[0]
	}
	x, at, e := sexpr.Parse(s)
	if !sexpr.Same(x, first) || at != wantAt || e != wantError {
		t.Errorf("Parse(%q) is %v, %d, %d, not %v, %d, %d", s, x, at, e, first, wantAt, wantError)
	}
}

// TestParseShortTexts checks P5.1 for all short texts of bytes of every kind.
func TestParseShortTexts(t *testing.T) {
	level := []string{""}
	for range 7 {
		var next []string
		for _, s := range level {
			checkParse(t, s)
			for _, c := range "a() ;\n\x01" {
				next = append(next, s+string(c))
			}
		}
		level = next
	}
}

// TestParseBytes checks P5.1 for each byte in each kind of place.
func TestParseBytes(t *testing.T) {
	for c := range 256 {
		b := string([]byte{byte(c)})
		for _, s := range []string{b, "a" + b, b + "a", "a" + b + "b", "(" + b + ")", "(a" + b + "b)", "(a)" + b, " " + b, ";" + b, ";" + b + "\na", "(a ;" + b + "\n)", b + b} {
			checkParse(t, s)
		}
	}
}

// TestParseErrors checks the examples of chapter 5, and which of several errors P5.1 wants.
func TestParseErrors(t *testing.T) {
	for _, c := range []struct {
		s  string
		at int
		e  api.Errno
	}{
		{"", 0, api.ErrParse}, {" \t\r\n", 4, api.ErrParse}, {"; only a comment", 16, api.ErrParse}, {"(a))", 3, api.ErrParse}, {"a b", 2, api.ErrParse},
		{"a ; one\n\t(b)", 9, api.ErrParse}, {"(a) ;x\n;y\n  b c", 12, api.ErrParse}, {"a b )", 4, api.ErrParse}, {"a (", 3, api.ErrParse}, {"((a)", 4, api.ErrParse},
		{"(a \x7f", 3, api.ErrParse}, {"(a\x80)", 2, api.ErrParse}, {"(é)", 1, api.ErrParse}, {"(a ;)", 5, api.ErrParse}, {"(a ;)\n", 6, api.ErrParse}, {")(", 0, api.ErrParse},
	} {
		if x, at, e := sexpr.Parse(c.s); at != c.at || e != c.e || !sexpr.Same(x, api.Sexp{}) {
			t.Errorf("Parse(%q) is %v, %d, %d", c.s, x, at, e)
		}
	}
	x, at, e := sexpr.Parse("(add x:8 ; sum\n 1:8)")
	if want := list(atom("add"), atom("x:8"), atom("1:8")); !sexpr.Same(x, want) || at != 0 || e != api.OK {
		t.Error(x, at, e)
	}
	if l, at, e := sexpr.ParseAll("a b"); len(l) != 2 || l[0].Atom != "a" || l[1].Atom != "b" || at != 0 || e != api.OK {
		t.Error(l, at, e)
	}
	if l, at, e := sexpr.ParseAll(" ;\n"); len(l) != 0 || at != 0 || e != api.OK {
		t.Error(l, at, e)
	}
}

// TestParseDepth checks the greatest depth of P5.1.
func TestParseDepth(t *testing.T) {
	opening, closing := strings.Repeat("(", 64), strings.Repeat(")", 64)
	for _, s := range []string{
		opening + closing, opening + closing + "a", opening[1:] + "a" + closing[1:] + opening + closing, opening[1:] + "a" + closing[1:], opening + "a", opening + " a" + closing, opening + "(" + closing, opening + " ;(\n" + closing,
		"a " + opening + "b", opening + ")" + "a" + closing[1:], opening + "\x01", opening + "\x01a", "\x01" + opening + "a", opening + "a\x01", opening + closing + opening + "(", opening + ")(" + closing, opening + ")(a" + closing,
		strings.Repeat("(", 3000), strings.Repeat("(", api.MaxText),
	} {
		checkParse(t, s)
	}
	if x, _, e := sexpr.Parse(opening + closing); e != api.OK || sexpr.Depth(x) != 64 {
		t.Error("the greatest depth", e)
	}
	if _, at, e := sexpr.Parse("  " + opening + " a"); at != 67 || e != api.ErrLong {
		t.Error("an atom that is too deep", at, e)
	}
}

// TestParseLength checks the greatest length of P5.1.
func TestParseLength(t *testing.T) {
	long := strings.Repeat("a", api.MaxText)
	if x, at, e := sexpr.Parse(long); x.Atom != long || at != 0 || e != api.OK {
		t.Error("a text at the limit", at, e)
	}
	for _, s := range []string{long + "a", long + " ", ")" + long, "\x01" + long, strings.Repeat("(", api.MaxText+1), strings.Repeat(" ", 3*api.MaxText)} {
		x, at, e := sexpr.Parse(s)
		if at != 0 || e != api.ErrLong || !sexpr.Same(x, api.Sexp{}) {
			t.Error("Parse", len(s), at, e)
		}
		l, at, e := sexpr.ParseAll(s)
		if at != 0 || e != api.ErrLong || len(l) != 0 {
			t.Error("ParseAll", len(s), at, e)
		}
	}
	s := strings.Repeat("() ", api.MaxText/3)
	if l, at, e := sexpr.ParseAll(s); len(l) != api.MaxText/3 || at != 0 || e != api.OK {
		t.Error("many s-expressions", len(l), at, e)
	}
	if _, at, e := sexpr.Parse(strings.Repeat(" ", api.MaxText-1) + ")"); at != api.MaxText-1 || e != api.ErrParse {
		t.Error("an error at the end", at, e)
	}
}

// TestPrint checks P5.2.
func TestPrint(t *testing.T) {
	for _, c := range []struct {
		e    api.Sexp
		want string
	}{
		{atom("x:8"), "x:8"}, {list(), "()"}, {api.Sexp{List: []api.Sexp{}}, "()"}, {list(atom("a")), "(a)"}, {list(atom("a"), list()), "(a ())"},
		{list(list(), atom("a"), list(atom("b"), atom("c"))), "(() a (b c))"}, {api.Sexp{Atom: "a", List: []api.Sexp{atom("b")}}, "a"},
		{list(api.Sexp{Atom: "a", List: []api.Sexp{atom("b")}}, atom(" (\n")), "(a  (\n)"}, {atom("\x00\xff;"), "\x00\xff;"}, {nested(300), strings.Repeat("(", 300) + strings.Repeat(")", 300)},
	} {
		if s := sexpr.Print(c.e); s != c.want {
			t.Errorf("Print is %q, not %q", s, c.want)
		}
	}
	if s := sexpr.PrintAll([]api.Sexp{atom("a"), list(atom("b"), list()), atom("c d")}); s != "a\n(b ())\nc d\n" {
		t.Errorf("PrintAll is %q", s)
	}
	if sexpr.PrintAll(nil) != "" || sexpr.PrintAll([]api.Sexp{}) != "" || sexpr.PrintAll([]api.Sexp{{}}) != "()\n" {
		t.Error("PrintAll")
	}
}

// TestValid checks P5.3: Valid.
func TestValid(t *testing.T) {
	for c := range 256 {
		b := string([]byte{byte(c)})
		for _, s := range []string{b, "a" + b, b + "a"} {
			if sexpr.Valid(atom(s)) != isAtomByte(byte(c)) || sexpr.Valid(list(atom("x"), list(atom(s)))) != isAtomByte(byte(c)) {
				t.Errorf("Valid of an atom %q", s)
			}
		}
	}
	for _, c := range []struct {
		e    api.Sexp
		want bool
	}{
		{list(), true}, {api.Sexp{List: []api.Sexp{}}, true}, {list(atom("a"), list(), atom("b")), true}, {api.Sexp{Atom: "a", List: []api.Sexp{}}, true}, {api.Sexp{Atom: "a", List: []api.Sexp{atom("b")}}, false},
		{list(atom("a"), api.Sexp{Atom: "a", List: []api.Sexp{{}}}), false}, {list(atom("é")), false}, {nested(64), true}, {nested(65), false}, {list(atom("a"), nested(63)), true}, {list(nested(64), atom("a")), false}, {nested(5000), false},
	} {
		if sexpr.Valid(c.e) != c.want {
			t.Errorf("Valid of %q is %v", sexpr.Print(c.e), !c.want)
		}
	}
	deep := atom("a")
	for range 63 {
		deep = list(deep)
	}
	if !sexpr.Valid(deep) || sexpr.Valid(list(deep)) {
		t.Error("the depth of an atom")
	}
}

// TestSame checks P5.3: Same.
func TestSame(t *testing.T) {
	different := []api.Sexp{
		list(), atom("a"), atom("b"), atom("aa"), list(list()), list(atom("a")), list(atom("b")), list(atom("a"), atom("b")), list(atom("b"), atom("a")), list(atom("a"), list(atom("b"))),
		list(list(atom("a")), atom("b")), list(list(), list()), {Atom: "a", List: []api.Sexp{{}}}, {Atom: "a", List: []api.Sexp{atom("b")}}, list(api.Sexp{Atom: "a", List: []api.Sexp{{}}}), nested(70),
	}
	for i, a := range different {
		for k, b := range different {
			if sexpr.Same(a, b) != (i == k) {
				t.Errorf("Same of %q and %q", sexpr.Print(a), sexpr.Print(b))
			}
		}
	}
	empty := []api.Sexp{}
	if !sexpr.Same(api.Sexp{}, api.Sexp{List: empty}) || !sexpr.Same(api.Sexp{Atom: "a", List: empty}, atom("a")) || !sexpr.Same(list(api.Sexp{List: empty}), list(list())) {
		t.Error("nil and empty lists")
	}
}

// TestDepthCount checks P5.3: Depth and Count.
func TestDepthCount(t *testing.T) {
	for _, c := range []struct {
		e            api.Sexp
		depth, count int
	}{
		{atom("a"), 1, 1}, {list(), 1, 1}, {list(atom("a")), 2, 2}, {list(list()), 2, 2}, {list(atom("f"), list(), list(atom("x"))), 3, 5}, {list(list(list(), atom("a")), atom("b")), 3, 5},
		{api.Sexp{Atom: "a", List: []api.Sexp{nested(9)}}, 1, 1}, {list(api.Sexp{Atom: "a", List: []api.Sexp{nested(9), atom("b")}}), 2, 2}, {nested(50000), 50000, 50000}, {list(nested(3), nested(7), nested(2)), 8, 13},
	} {
		if d, n := sexpr.Depth(c.e), sexpr.Count(c.e); d != c.depth || n != c.count {
			t.Errorf("depth %d and count %d, not %d and %d", d, n, c.depth, c.count)
		}
	}
}

// random returns a valid s-expression of at most the given depth.
func random(r *rand.Rand, depth int) api.Sexp {
	if depth == 1 && r.IntN(2) == 0 || r.IntN(3) == 0 {
		var bytes []byte
		for range 1 + r.IntN(4) {
			if c := byte(33 + r.IntN(94)); isAtomByte(c) {
				bytes = append(bytes, c)
			}
		}
		return atom("a" + string(bytes))
	}
	var l []api.Sexp
	for range r.IntN(4) {
		if depth > 1 {
			l = append(l, random(r, depth-1))
		}
	}
	return list(l...)
}

// spread returns the text of an s-expression with blanks and comments between its tokens.
func spread(r *rand.Rand, e api.Sexp) string {
	gap := func() string {
		s := ""
		for range r.IntN(3) {
			s += []string{" ", "\n", "\t", "\r", ";\n", "; a (comment) ;\x01\xff\n"}[r.IntN(6)]
		}
		return s
	}
	if e.Atom != "" {
		return gap() + e.Atom + gap()
	}
	s := gap() + "(" + gap()
	for _, x := range e.List {
		s += spread(r, x) + []string{" ", "\n", ";\n"}[r.IntN(3)]
	}
	return s + ")" + gap()
}

// TestInverse checks P5.4.
func TestInverse(t *testing.T) {
	r := rand.New(rand.NewPCG(5, 4))
	var all []api.Sexp
	text := ""
	for i := range 2000 {
		e := random(r, 1+i%7)
		if !sexpr.Valid(e) {
			t.Fatal(e)
		}
		for _, s := range []string{sexpr.Print(e), spread(r, e), spread(r, e) + "; the end"} {
			x, at, code := sexpr.Parse(s)
			if !sexpr.Same(x, e) || at != 0 || code != api.OK {
				t.Fatalf("Parse(%q) is %v, %d, %d", s, x, at, code)
			}
			if y, _, _ := sexpr.Parse(sexpr.Print(x)); !sexpr.Same(x, y) {
				t.Fatalf("parsed, printed and parsed: %q", s)
			}
		}
		if i < 100 {
			all = append(all, e)
			text += spread(r, e) + " "
		}
	}
	for _, s := range []string{text, sexpr.PrintAll(all)} {
		if l, at, code := sexpr.ParseAll(s); !slices.EqualFunc(l, all, sexpr.Same) || at != 0 || code != api.OK {
			t.Error("ParseAll", at, code)
		}
	}
}

// TestMemory checks that the lists of a result share no memory, and that arguments are left alone.
func TestMemory(t *testing.T) {
	x, _, _ := sexpr.Parse("((a b c) (d e) (f))")
	for i := range x.List {
		_ = append(x.List[i].List, atom("z"))
	}
	before := sexpr.Print(x)
	if before != "((a b c) (d e) (f))" {
		t.Error("a list has room in the memory of another one", before)
	}
	sexpr.Valid(x)
	sexpr.Same(x, list(x, x))
	sexpr.Depth(x)
	sexpr.Count(x)
	sexpr.PrintAll(x.List)
	if s := sexpr.Print(x); s != before {
		t.Error("an argument is changed", s)
	}
}
