package program_test

import (
	"maps"
	"math/rand/v2"
	"slices"
	"strconv"
	"testing"

	"saturate/api"
	"saturate/egraph"
	"saturate/program"
	"saturate/represent"
	"saturate/term"
	"saturate/termtext"
)

// binding has the classes of the roots and holes and the values of the nums, by texts.
type binding map[string]uint64

// with returns the binding with a further entry, and whether this is possible.
func (b binding) with(name string, val uint64) (binding, bool) {
	if old, seen := b[name]; seen {
		return b, old == val
	}
	c := maps.Clone(b)
	c[name] = val
	return c, true
}

// text returns a text of a binding.
func (b binding) text() string {
	var s string
	for _, name := range slices.Sorted(maps.Keys(b)) {
		s += name + "=" + strconv.FormatUint(b[name], 10) + " "
	}
	return s
}

func sameRoot(n api.Node, op api.Op, width int, val uint64, name string) bool {
	return n.Op == op && n.Width == width && n.Val == val && n.Name == name
}

// matchClass returns the bindings with which a class matches a pattern, by the definition in chapter 26.
func matchClass(g *egraph.Graph, p api.Term, class int, b binding) []binding {
	var found []binding
	add := func(name string, val uint64) {
		if c, ok := b.with(name, val); ok {
			found = append(found, c)
		}
	}
	switch p.Op {
	case api.OpHole:
		if g.Width(class) == p.Width {
			add("?"+p.Name, uint64(class))
		}
		return found
	case api.OpNum:
		for _, n := range g.Nodes(class) {
			if n.Op == api.OpConst && n.Width == p.Width {
				add("#"+p.Name, n.Val)
			}
		}
		return found
	}
	for _, n := range g.Nodes(class) {
		if !sameRoot(n, p.Op, p.Width, p.Val, p.Name) {
			continue
		}
		some := []binding{b}
		for i, arg := range n.Args {
			var next []binding
			for _, c := range some {
				next = append(next, matchClass(g, p.Args[i], arg, c)...)
			}
			some = next
		}
		found = append(found, some...)
	}
	return found
}

// matches returns the texts of the matches of atoms, by the definition in chapter 26.
func matches(g *egraph.Graph, list []api.Atom) map[string]bool {
	some := []binding{{}}
	for i, a := range list {
		var next []binding
		for _, b := range some {
			for _, class := range g.Classes() {
				c, _ := b.with("root "+strconv.Itoa(i), uint64(class))
				ok := true
				if a.Root != "" {
					c, ok = c.with("?"+a.Root, uint64(class))
				}
				if ok {
					next = append(next, matchClass(g, a.Pattern, class, c)...)
				}
			}
		}
		some = next
	}
	found := map[string]bool{}
	for _, b := range some {
		found[b.text()] = true
	}
	return found
}

// execution executes a program on an e-graph, as chapter 25 describes it.
type execution struct {
	g       *egraph.Graph
	p       api.MProg
	classes [4096]int
	values  [16]uint64
	found   map[string]bool
}

func (x *execution) run(at int) {
	if at == len(x.p.Ins) {
		x.finish()
		return
	}
	i := x.p.Ins[at]
	switch i.Kind {
	case api.MScan:
		for _, class := range x.g.Classes() {
			x.classes[i.A] = class
			x.run(at + 1)
		}
	case api.MBind:
		for _, n := range x.g.Nodes(x.classes[i.A]) {
			if sameRoot(n, i.Node.Op, i.Node.Width, i.Node.Val, i.Node.Name) {
				copy(x.classes[i.B:], n.Args)
				x.run(at + 1)
			}
		}
	case api.MSame:
		if x.classes[i.A] == x.classes[i.B] {
			x.run(at + 1)
		}
	case api.MNum:
		for _, n := range x.g.Nodes(x.classes[i.A]) {
			if n.Op == api.OpConst {
				x.values[i.B] = n.Val
				x.run(at + 1)
			}
		}
	case api.MLookup:
		if represent.Has(x.g, x.classes[i.A], i.Term) {
			x.run(at + 1)
		}
	case api.MWidth:
		if x.g.Width(x.classes[i.A]) == i.B {
			x.run(at + 1)
		}
	}
}

// finish adds the match of a finished execution.
func (x *execution) finish() {
	b := binding{}
	for i, reg := range x.p.Roots {
		b["root "+strconv.Itoa(i)] = uint64(x.classes[reg])
	}
	for _, s := range x.p.Holes {
		b["?"+s.Name] = uint64(x.classes[s.Reg])
	}
	for _, s := range x.p.Nums {
		b["#"+s.Name] = x.values[s.Reg]
	}
	x.found[b.text()] = true
}

// checkMatches checks that the program for valid atoms finds their matches, and returns how many there are.
func checkMatches(t *testing.T, g *egraph.Graph, list []api.Atom) int {
	t.Helper()
	p, e := program.Compile(list)
	if e != api.OK || program.Check(p) != api.OK {
		t.Fatalf("%s: %d, %d", texts(list), e, program.Check(p))
	}
	nodes := 0
	for _, a := range list {
		nodes += term.Size(a.Pattern)
	}
	if len(p.Ins) > 3*nodes+8 {
		t.Fatalf("%d instructions for %s", len(p.Ins), texts(list))
	}
	holes, nums := program.Names(list)
	if !sameNames(p.Holes, holes) || !sameNames(p.Nums, nums) || len(p.Roots) != len(list) {
		t.Fatalf("%s: %v, %v, %v", texts(list), p.Roots, p.Holes, p.Nums)
	}
	x := &execution{g: g, p: p, found: map[string]bool{}}
	x.run(0)
	if want := matches(g, list); !maps.Equal(x.found, want) {
		t.Fatalf("%s\n%sin %v has the matches %v, not %v", texts(list), show(p), g.Dump(), x.found, want)
	}
	return len(x.found)
}

func sameNames(l []api.Slot, vars []api.Var) bool {
	return slices.EqualFunc(l, vars, func(s api.Slot, v api.Var) bool { return s.Name == v.Name })
}

// texts returns the texts of atoms.
func texts(list []api.Atom) string {
	var s string
	for _, a := range list {
		s += a.Root + " = " + termtext.Print(a.Pattern) + "\n"
	}
	return s
}

// randomGraph returns an e-graph that is not dirty, with terms of several widths and few classes. A class can have several consts.
func randomGraph(r *rand.Rand, nodes, joins int) *egraph.Graph {
	g := egraph.New()
	for range nodes {
		arg := func() int { return r.IntN(g.Len() + 1) }
		op := api.Op(1 + r.IntN(23))
		n := api.Node{Op: op, Width: []int{1, 2, 2, 2, 4}[r.IntN(5)]}
		switch op {
		case api.OpVar:
			n.Name = []string{"a", "b", "c"}[r.IntN(3)]
		case api.OpConst:
			n.Val = r.Uint64N(4)
		case api.OpNot, api.OpNeg, api.OpZext, api.OpSext:
			n.Args = []int{arg()}
		case api.OpExtract:
			n.Args, n.Val = []int{arg()}, r.Uint64N(3)
		case api.OpIte:
			n.Args = []int{arg(), arg(), arg()}
		default:
			n.Args = []int{arg(), arg()}
		}
		g.Add(n)
	}
	for range joins {
		g.Union(r.IntN(g.Len()+1), r.IntN(g.Len()+1), 0)
	}
	g.Rebuild()
	return g
}

// randomPattern returns a pattern that matches a class, if its holes and nums allow it.
func randomPattern(r *rand.Rand, g *egraph.Graph, class, depth int) api.Term {
	width := g.Width(class)
	name := []string{"a", "b", "c"}[r.IntN(3)] + strconv.Itoa(width)
	l := g.Nodes(class)
	n := l[r.IntN(len(l))]
	switch {
	case n.Op == api.OpConst && r.IntN(2) == 0:
		return api.Term{Op: api.OpNum, Width: width, Name: "n" + name}
	case n.Op == api.OpVar || depth == 0 || r.IntN(6) == 0:
		return api.Term{Op: api.OpHole, Width: width, Name: name}
	}
	p := api.Term{Op: n.Op, Width: n.Width, Val: n.Val}
	for _, arg := range n.Args {
		p.Args = append(p.Args, randomPattern(r, g, arg, depth-1))
	}
	return p
}

// TestMatches checks P25.2 and P25.4 for random atoms and e-graphs.
func TestMatches(t *testing.T) {
	some, many := 0, 0
	for seed := range uint64(3000) {
		r := rand.New(rand.NewPCG(seed, 25))
		g := randomGraph(r, 6+r.IntN(25), r.IntN(12))
		if g.Len() == 0 {
			continue
		}
		var list []api.Atom
		for range 1 + r.IntN(3) {
			class := r.IntN(g.Len())
			a := api.Atom{Pattern: randomPattern(r, g, class, r.IntN(5))}
			if r.IntN(2) == 0 {
				a.Root = []string{"a", "b", "r"}[r.IntN(3)] + strconv.Itoa(g.Width(class))
			}
			list = append(list, a)
		}
		switch n := checkMatches(t, g, list); {
		case n > 1:
			many++
			fallthrough
		case n == 1:
			some++
		}
	}
	if some < 2000 || many < 500 {
		t.Error("too few matches:", some, many)
	}
}

// TestWidths checks P25.2 for holes and nums whose width the operator does not determine.
func TestWidths(t *testing.T) {
	g := egraph.New()
	for _, s := range []string{
		"(eq x:8 y:8)", "(eq z:4 w:4)", "(ult x:8 3:8)", "(ult 5:4 w:4)", "(slt x:8 y:8)", "(slt z:4 z:4)", "(concat x:8 z:4)", "(concat z:4 x:8)", "(concat (concat z:4 z:4) z:4)", "(concat 1:4 2:8)", "(concat 2:8 1:4)",
		"(extract 1 2 x:8)", "(extract 1 2 z:4)", "(extract 1 2 9:4)", "(extract 1 2 9:8)", "(zext 16 x:8)", "(zext 16 z:4)", "(sext 16 x:8)", "(sext 16 z:4)", "(zext 16 7:4)", "(sext 16 7:8)", "(ite (eq x:8 y:8) x:8 y:8)", "(ite (eq z:4 w:4) z:4 w:4)", "(not x:8)", "(not z:4)", "(not 3:8)", "(zext 8 x:8)",
	} {
		if _, e := represent.AddTerm(g, read(t, s)); e != api.OK {
			t.Fatal(s, e)
		}
	}
	for s, want := range map[string]int{
		"?a:8": 11, "?a:4": 8, "?a:16": 6, "?a:1": 6, "?a:2": 4, "?a:12": 5, "?a:3": 0, "#c:8": 4, "#c:4": 4, "#c:1": 0,
		"(eq ?a:8 ?b:8)": 1, "(eq ?a:4 ?b:4)": 1, "(ult ?a:8 #c:8)": 1, "(ult #c:4 ?a:4)": 1, "(ult #c:8 ?a:8)": 0, "(slt ?a:8 ?b:8)": 1, "(slt ?a:4 ?b:4)": 1, "(slt ?a:4 ?a:4)": 1, "(slt ?a:8 ?a:8)": 0,
		"(concat ?a:8 ?b:4)": 3, "(concat ?a:4 ?b:8)": 2, "(concat #a:4 ?b:8)": 1, "(concat #a:8 #b:4)": 1, "(concat ?a:6 ?b:6)": 0, "(extract 1 2 ?a:8)": 2, "(extract 1 2 ?a:4)": 2, "(extract 1 2 #a:8)": 1, "(extract 1 2 #a:4)": 1,
		"(zext 16 ?a:8)": 1, "(zext 16 ?a:4)": 2, "(sext 16 ?a:8)": 2, "(sext 16 #a:8)": 1, "(sext 16 #a:4)": 0, "(ite ?c:1 ?a:8 ?b:8)": 1, "(ite (eq ?a:4 ?b:4) ?a:4 ?b:4)": 1, "(ite (eq ?a:4 ?b:4) ?b:4 ?a:4)": 0, "(not ?a:8)": 2, "(not #a:8)": 1,
	} {
		if n := checkMatches(t, g, atoms(t, "", s)); n != want {
			t.Errorf("%s has %d matches, not %d", s, n, want)
		}
	}
	for i, c := range []struct {
		atoms []api.Atom
		want  int
	}{
		{atoms(t, "r", "?r:8"), 11}, {atoms(t, "r", "?s:4"), 8}, {atoms(t, "r", "#c:8"), 4}, {atoms(t, "r", "(zext 8 ?r:8)"), 0}, {atoms(t, "r", "(zext 8 ?a:8)"), 1},
		{atoms(t, "r", "?a:4", "r", "?b:4"), 8}, {atoms(t, "", "?a:4", "", "?a:4"), 8}, {atoms(t, "", "?a:4", "a", "?b:4"), 8}, {atoms(t, "", "?a:4", "", "?b:4"), 64}, {atoms(t, "a", "?x:4", "b", "?x:4", "a", "?b:4"), 8},
		{atoms(t, "", "(eq ?a:8 ?b:8)", "", "(slt ?a:8 ?b:8)"), 1}, {atoms(t, "", "(eq ?a:4 ?b:4)", "", "(slt ?a:4 ?b:4)"), 0}, {atoms(t, "", "(concat ?a:8 ?b:4)", "a", "(concat ?b:4 ?b:4)"), 1}, {atoms(t, "", "(concat ?a:8 ?b:4)", "b", "(not ?c:4)"), 0}, {atoms(t, "", "(concat ?b:8 ?a:4)", "a", "(concat ?c:2 ?d:2)"), 0},
	} {
		if n := checkMatches(t, g, c.atoms); n != c.want {
			t.Errorf("case %d has %d matches, not %d", i, n, c.want)
		}
	}
}

// TestConsts checks P25.2 for a class with several consts, which unsound unions can cause.
func TestConsts(t *testing.T) {
	g := egraph.New()
	for _, s := range []string{"(add 1:8 2:8)", "(add 1:8 3:8)", "(mul 1:8 3:8)"} {
		if _, e := represent.AddTerm(g, read(t, s)); e != api.OK {
			t.Fatal(s, e)
		}
	}
	g.Union(0, 1, 0)
	g.Rebuild()
	for s, want := range map[string]int{"#c:8": 3, "(add #c:8 #d:8)": 4 + 2, "(add #c:8 #c:8)": 2, "(add #c:8 2:8)": 2, "(add #c:8 ?a:8)": 4, "(mul ?a:8 #d:8)": 1, "(add 2:8 1:8)": 1, "(add 3:8 1:8)": 0} {
		if n := checkMatches(t, g, atoms(t, "", s)); n != want {
			t.Errorf("%s has %d matches, not %d", s, n, want)
		}
	}
	if n := checkMatches(t, g, atoms(t, "", "(add #c:8 ?a:8)", "", "(mul #c:8 ?b:8)", "a", "#d:8")); n != 2*3 {
		t.Error(n)
	}
	if n := checkMatches(t, g, atoms(t, "", "(add #c:8 (sub ?a:8 ?a:8))")); n != 0 {
		t.Error(n)
	}
}
