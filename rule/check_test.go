package rule_test

import (
	"strconv"
	"strings"
	"testing"

	"saturate/api"
	"saturate/rule"
	"saturate/term"
	"saturate/termtext"
)

// pattern reads a pattern.
func pattern(t *testing.T, s string) api.Term {
	t.Helper()
	p, e := termtext.Parse(s)
	if e != api.OK {
		t.Fatalf("%s: %d", s, e)
	}
	return p
}

// atoms reads atoms that are separated by semicolons. A Root is followed by an equals sign.
func atoms(t *testing.T, s string) []api.Atom {
	t.Helper()
	var l []api.Atom
	for _, part := range strings.Split(s, ";") {
		root, text, ok := strings.Cut(part, "=")
		if !ok {
			root, text = "", part
		}
		l = append(l, api.Atom{Root: strings.TrimSpace(root), Pattern: pattern(t, strings.TrimSpace(text))})
	}
	return l
}

// guards reads guards: the name of a kind, and one or two patterns that are separated by a comma.
func guards(t *testing.T, l []string) []api.Guard {
	t.Helper()
	kinds := map[string]int{"if": api.GuardPred, "equal": api.GuardEqual, "zeros": api.GuardZeros, "below": api.GuardBelow}
	var read []api.Guard
	for _, s := range l {
		kind, text, _ := strings.Cut(s, " ")
		a, b, ok := strings.Cut(text, ",")
		c := api.Guard{Kind: kinds[kind], A: pattern(t, strings.TrimSpace(a))}
		if ok {
			c.B = pattern(t, strings.TrimSpace(b))
		}
		read = append(read, c)
	}
	return read
}

// read reads the parts of a rule.
func read(t *testing.T, left, right string, l ...string) api.Rule {
	t.Helper()
	return api.Rule{Name: "r", Left: atoms(t, left), Right: pattern(t, right), Guards: guards(t, l)}
}

// sum returns the sum of n holes with different names.
func sum(n int) api.Term {
	hole := func(i int) api.Term { return api.Term{Op: api.OpHole, Width: 4, Name: "n" + strconv.Itoa(i)} }
	s := hole(0)
	for i := range n - 1 {
		s = term.Make(api.OpAdd, s, hole(i+1))
	}
	return s
}

// TestCheck checks each error of P28.1.
func TestCheck(t *testing.T) {
	for i, x := range []struct {
		r    api.Rule
		want api.Errno
	}{
		{read(t, "(add ?a:4 0:4)", "?a:4"), api.OK}, {read(t, "?a:4", "?a:4"), api.OK}, {read(t, "0:4", "0:4"), api.OK}, {read(t, "#c:4", "(eval (not #c:4))"), api.OK},
		{read(t, "(add ?a:0 0:0)", "?a:0"), api.OK}, {read(t, "(eq ?a:0 ?a:0)", "1:1"), api.OK}, {read(t, "(shl ?a:0 #c:0)", "(mul ?a:0 (eval (shl 1:0 #c:0)))"), api.OK}, {read(t, "(concat ?a:4 ?b:4)", "(ite (eq ?c:0 1:0) 0:8 1:8)"), api.ErrBind},
		{read(t, "r = (not ?a:4)", "?r:4"), api.OK}, {read(t, "r = (not ?a:4); r = (neg ?b:4)", "(not ?a:4)"), api.OK}, {read(t, "a = (not ?a:4)", "?a:4"), api.OK}, {read(t, "(not ?a:4); b = (not ?b:8); ?c:1; (add ?a:4 ?d:4)", "?d:4"), api.OK},
		{read(t, "(urem ?a:4 #c:4)", "?a:4", "below ?a:4, #c:4", "if (ult 1:4 #c:4)", "zeros ?a:4, 1:4", "equal ?a:4, (add ?a:4 0:4)"), api.OK}, {read(t, "r = (not ?a:4)", "?r:4", "below ?r:4, 3:4"), api.OK}, {read(t, "(not ?a:0)", "?a:0", "zeros ?a:0, (not 1:0)"), api.OK},
		// the atoms
		{read(t, "(add x:4 ?a:4)", "?a:4"), api.ErrOp}, {read(t, "(eval #c:4)", "0:4"), api.ErrOp}, {read(t, "?a:4; (eval #c:4)", "?a:4"), api.ErrOp}, {read(t, "(concat ?a:4 ?a:8)", "0:12"), api.ErrBind}, {read(t, "?a:4; (concat ?b:4 #b:4)", "?a:4"), api.ErrBind},
		{read(t, "R = ?a:4", "?a:4"), api.ErrName}, {read(t, "?a:4; 9 = ?b:4", "?a:4"), api.ErrName}, {read(t, "r.2 = ?a:4", "?a:4"), api.ErrName}, {read(t, "abcdefghijklmnopq = ?a:4", "?a:4"), api.ErrName}, {read(t, "abcdefghijklmnop = ?a:4", "?a:4"), api.OK},
		// the names
		{read(t, "?a:4; ?a:8", "?a:4"), api.ErrBind}, {read(t, "?a:4; #a:4", "?a:4"), api.ErrBind}, {read(t, "?a:4; ?a:0", "?a:4"), api.ErrBind}, {read(t, "#a:4; #a:0", "#a:4"), api.ErrBind}, {read(t, "?a:4; (zext 8 (not ?a:8))", "?a:4"), api.ErrBind}, {read(t, "r = ?a:4; (not ?r:8)", "?a:4"), api.ErrBind}, {read(t, "r = ?a:4; r = ?b:8", "?a:4"), api.ErrBind}, {read(t, "r = ?a:4; (not #r:4)", "?a:4"), api.ErrBind}, {read(t, "r = ?a:4; r = ?b:0", "?a:4"), api.ErrBind}, {read(t, "r = (zext 8 ?r:4)", "?r:8"), api.ErrBind}, {read(t, "r = ?r:4", "?r:4"), api.OK},
		// Right
		{read(t, "?a:4", "x:4"), api.ErrOp}, {read(t, "?a:4", "(eval ?a:4)"), api.ErrBind}, {read(t, "#c:4", "(eval (eval #c:4))"), api.ErrBind}, {read(t, "?a:4", "(extract 0 4 (concat ?a:4 #a:4))"), api.ErrBind},
		{read(t, "?a:4", "?b:4"), api.ErrBind}, {read(t, "?a:4", "#a:4"), api.ErrBind}, {read(t, "#a:4", "?a:4"), api.ErrBind}, {read(t, "?a:4", "?a:8"), api.ErrBind}, {read(t, "?a:4", "?a:0"), api.ErrBind}, {read(t, "?a:0", "?a:4"), api.ErrBind}, {read(t, "?a:4", "(eval #c:4)"), api.ErrBind}, {read(t, "r = (not ?a:4)", "?s:4"), api.ErrBind}, {read(t, "r = (not ?a:4)", "#r:4"), api.ErrBind}, {read(t, "r = (zext 8 ?a:4)", "(zext 8 ?r:4)"), api.ErrBind}, {read(t, "?a:4; ?b:4", "?b:4"), api.OK},
		{read(t, "?a:4", "(zext 8 ?a:4)"), api.ErrWidth}, {read(t, "?a:0", "0:4"), api.ErrWidth}, {read(t, "?a:4", "0:0"), api.ErrWidth}, {read(t, "(eq ?a:0 ?b:0)", "?a:0"), api.ErrWidth}, {read(t, "?a:4; ?b:8", "?b:8"), api.ErrWidth}, {read(t, "?b:8; ?a:4", "?b:8"), api.OK},
		// guards
		{read(t, "?a:4", "?a:4", "equal ?a:4, ?b:4"), api.ErrBind}, {read(t, "?a:4", "?a:4", "below ?a:4, #c:4"), api.ErrBind}, {read(t, "?a:4", "?a:4", "below ?a:8, 1:8"), api.ErrBind}, {read(t, "?a:4", "?a:4", "zeros ?a:0, 1:0"), api.ErrBind}, {read(t, "?a:4", "?a:4", "equal ?a:4, x:4"), api.ErrOp}, {read(t, "?a:4", "?a:4", "equal ?a:4, 1:8"), api.ErrWidth}, {read(t, "#c:4", "#c:4", "if #c:4"), api.ErrWidth}, {read(t, "?a:1", "?a:1", "if ?a:1"), api.ErrBind}, {read(t, "?a:4", "?a:4", "none ?a:4, ?a:4"), api.ErrArg}, {read(t, "?a:4", "?a:4", "equal ?a:4, ?a:4", "below 1:4, 2:4"), api.ErrArg}, {read(t, "?a:4; ?b:8", "?a:4", "below ?b:8, 1:8"), api.OK},
	} {
		if e := rule.Check(x.r); e != x.want {
			t.Errorf("case %d: %d, not %d", i, e, x.want)
		}
	}
	for name, want := range map[string]api.Errno{"": api.ErrName, "R": api.ErrName, "1": api.ErrName, "_": api.ErrName, "a-b": api.ErrName, "abcdefghijklmnopq": api.ErrName, "abcdefghijklmnop": api.OK, "add_0": api.OK} {
		r := read(t, "?a:4", "?a:4")
		r.Name = name
		if e := rule.Check(r); e != want {
			t.Errorf("%q: %d", name, e)
		}
	}
}

// TestCheckLimits checks the limits of P28.1.
func TestCheckLimits(t *testing.T) {
	base := read(t, "?a:4", "?a:4")
	for n, want := range map[int]api.Errno{0: api.ErrLong, 1: api.OK, 4: api.OK, 5: api.ErrLong, 100: api.ErrLong} {
		r := base
		r.Left = nil
		for range n {
			r.Left = append(r.Left, base.Left[0])
		}
		if e := rule.Check(r); e != want {
			t.Errorf("%d atoms: %d", n, e)
		}
	}
	for n, want := range map[int]api.Errno{8: api.OK, 9: api.ErrLong, 100: api.ErrLong} {
		r := base
		for range n {
			r.Guards = append(r.Guards, api.Guard{Kind: api.GuardPred, A: pattern(t, "1:1")})
		}
		if e := rule.Check(r); e != want {
			t.Errorf("%d guards: %d", n, e)
		}
	}
	for i, x := range []struct {
		r    api.Rule
		want api.Errno
	}{
		{api.Rule{Name: "r", Left: []api.Atom{{Pattern: sum(16)}}, Right: pattern(t, "0:4")}, api.OK},
		{api.Rule{Name: "r", Left: []api.Atom{{Pattern: sum(17)}}, Right: pattern(t, "0:4")}, api.ErrLong},
		{api.Rule{Name: "r", Left: []api.Atom{{Pattern: sum(16)}, {Pattern: sum(9)}}, Right: sum(16)}, api.OK},
		{api.Rule{Name: "r", Left: []api.Atom{{Pattern: sum(16)}, {Root: "n3", Pattern: sum(2)}}, Right: sum(16)}, api.OK},
		{api.Rule{Name: "r", Left: []api.Atom{{Pattern: sum(16)}, {Pattern: pattern(t, "?a:4")}}, Right: pattern(t, "0:4")}, api.ErrLong},
		{api.Rule{Name: "r", Left: []api.Atom{{Pattern: sum(16)}, {Pattern: pattern(t, "#c:4")}}, Right: pattern(t, "0:4")}, api.ErrLong},
		{api.Rule{Name: "r", Left: []api.Atom{{Root: "a", Pattern: sum(16)}}, Right: pattern(t, "0:4")}, api.ErrLong},
		{api.Rule{Name: "r", Left: []api.Atom{{Root: "a", Pattern: sum(15)}}, Right: pattern(t, "?a:4")}, api.OK},
		{api.Rule{Name: "r", Left: []api.Atom{{Pattern: sum(16)}}, Right: sum(17)}, api.ErrLong},
	} {
		if e := rule.Check(x.r); e != x.want {
			t.Errorf("case %d: %d, not %d", i, e, x.want)
		}
	}
	// Operands that share memory can make a pattern enormous.
	huge := pattern(t, "?a:4")
	for range 62 {
		huge = api.Term{Op: api.OpAdd, Width: 4, Args: []api.Term{huge, huge}}
	}
	for _, r := range []api.Rule{{Name: "r", Left: []api.Atom{{Pattern: huge}}, Right: base.Right}, {Name: "r", Left: base.Left, Right: huge}, {Name: "r", Left: base.Left, Right: base.Right, Guards: []api.Guard{{Kind: api.GuardEqual, A: huge, B: huge}}}} {
		if e := rule.Check(r); e != api.ErrLong {
			t.Error(e)
		}
	}
}

// faults are what can be wrong with a rule, in the order of P28.1, with the error.
var faults = []struct {
	name string
	want api.Errno
}{
	{"name", api.ErrName}, {"guards", api.ErrLong}, {"pattern 1", api.ErrOp}, {"root 1", api.ErrName}, {"pattern 2", api.ErrWidth}, {"root 2", api.ErrName}, {"names", api.ErrBind}, {"holes", api.ErrLong},
	{"right", api.ErrOp}, {"bind", api.ErrBind}, {"width", api.ErrWidth}, {"guard 1", api.ErrArg}, {"guard 2", api.ErrOp},
}

// faulty returns a rule with some faults.
func faulty(t *testing.T, has map[string]bool) api.Rule {
	t.Helper()
	choose := func(fault, bad, good string) string {
		if has[fault] {
			return bad
		}
		return good
	}
	r := read(t, choose("pattern 1", "x:4", "?a:4")+"; b = (not ?c:4)", "?a:4", choose("guard 1", "below (not ?a:4), 3:4", "below ?a:4, 3:4"), choose("guard 2", "equal ?a:4, x:4", "equal ?a:4, ?b:4"))
	r.Name = choose("name", "R", "r")
	r.Left[0].Root = choose("root 1", "A", "")
	r.Left[1].Root = choose("root 2", "B", "b")
	if has["pattern 2"] {
		r.Left[1].Pattern.Width = 5
	}
	if has["names"] {
		r.Left = append(r.Left, atoms(t, "#a:4")...)
	}
	if has["holes"] {
		r.Left = append(r.Left, api.Atom{Pattern: sum(14)})
	}
	if has["right"] {
		r.Right = term.Make(api.OpAdd, pattern(t, "x:4"), r.Right)
	}
	if has["bind"] {
		r.Right = term.Make(api.OpAdd, r.Right, pattern(t, "?z:4"))
	}
	if has["width"] {
		r.Right = api.Term{Op: api.OpZext, Width: 8, Args: []api.Term{r.Right}}
	}
	for has["guards"] && len(r.Guards) < 9 {
		r.Guards = append(r.Guards, r.Guards[0])
	}
	return r
}

// TestCheckOrder checks that the first error of P28.1 is returned.
func TestCheckOrder(t *testing.T) {
	if e := rule.Check(faulty(t, nil)); e != api.OK {
		t.Fatal(e)
	}
	for set := 1; set < 1<<len(faults); set++ {
		has := map[string]bool{}
		want := api.OK
		for k, fault := range faults {
			if set>>k&1 == 1 {
				has[fault.name] = true
				if want == api.OK {
					want = fault.want
				}
			}
		}
		if e := rule.Check(faulty(t, has)); e != want {
			t.Fatalf("%v: %d, not %d", has, e, want)
		}
	}
	// Of two guards with errors the first one counts, whatever the errors are.
	if e := rule.Check(read(t, "?a:4", "?a:4", "equal ?a:4, 1:8", "none ?a:4")); e != api.ErrWidth {
		t.Error(e)
	}
}
