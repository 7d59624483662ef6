package program_test

import (
	"slices"
	"strconv"
	"testing"

	"saturate/api"
	"saturate/program"
	"saturate/term"
	"saturate/termtext"
)

// read reads a pattern.
func read(t *testing.T, s string) api.Term {
	t.Helper()
	p, e := termtext.Parse(s)
	if e != api.OK {
		t.Fatalf("%s: %d", s, e)
	}
	return p
}

// atoms reads atoms: each consists of a Root and a pattern.
func atoms(t *testing.T, l ...string) []api.Atom {
	t.Helper()
	var list []api.Atom
	for i := 0; i < len(l); i += 2 {
		list = append(list, api.Atom{Root: l[i], Pattern: read(t, l[i+1])})
	}
	return list
}

// chain returns the hole ?a:8 with operators not, with the given number of nodes.
func chain(nodes int) api.Term {
	p := api.Term{Op: api.OpHole, Width: 8, Name: "a"}
	for range nodes - 1 {
		p = term.Make(api.OpNot, p)
	}
	return p
}

// holes returns a sum of n different holes with names from first on.
func holes(first, n int) api.Term {
	p := api.Term{Op: api.OpHole, Width: 8, Name: "h" + strconv.Itoa(first)}
	for i := range n - 1 {
		p = term.Make(api.OpAdd, api.Term{Op: api.OpHole, Width: 8, Name: "h" + strconv.Itoa(first+1+i)}, p)
	}
	return p
}

// TestCheckAtoms checks the errors of CheckAtoms and Compile (P25.1, P25.2), and their order.
func TestCheckAtoms(t *testing.T) {
	list := func(l ...string) []api.Atom { return atoms(t, l...) }
	twoWidths := api.Term{Op: api.OpConcat, Width: 12, Args: []api.Term{{Op: api.OpHole, Width: 8, Name: "a"}, {Op: api.OpHole, Width: 4, Name: "a"}}}
	for i, c := range []struct {
		atoms []api.Atom
		want  api.Errno
	}{
		{nil, api.ErrLong}, {list("", "?a:8", "", "?a:8", "", "?a:8", "", "?a:8", "", "x:8"), api.ErrLong}, {make([]api.Atom, 5), api.ErrLong},
		{list("", "?a:8", "", "?a:8", "", "?a:8", "", "?a:8"), api.OK},
		// The errors of each atom, in their order.
		{list("", "x:8"), api.ErrOp}, {list("", "(eval ?a:8)"), api.ErrOp}, {list("", "(add ?a:8 (eval #c:8))"), api.ErrOp}, {[]api.Atom{{}}, api.ErrOp}, {[]api.Atom{{Root: "r"}}, api.ErrOp}, {list("A", "x:8"), api.ErrOp}, {list("A", "(add x:0 ?a:0)"), api.ErrOp},
		{[]api.Atom{{Pattern: api.Term{Op: api.OpHole, Width: 8, Name: "A"}}}, api.ErrName}, {[]api.Atom{{Pattern: api.Term{Op: api.OpNot, Width: 4, Args: []api.Term{chain(1)}}}}, api.ErrWidth},
		{[]api.Atom{{Root: "A", Pattern: twoWidths}}, api.ErrBind}, {[]api.Atom{{Pattern: chain(65)}}, api.ErrLong}, {[]api.Atom{{Pattern: chain(64)}}, api.OK}, {[]api.Atom{{Pattern: holes(0, 17)}}, api.ErrLong}, {[]api.Atom{{Pattern: holes(0, 16)}}, api.OK},
		{list("", "?a:0"), api.ErrWidth}, {list("A", "(add ?a:0 1:0)"), api.ErrWidth}, {list("", "(eq ?a:0 ?b:0)"), api.ErrWidth},
		{list("A", "?a:8"), api.ErrName}, {list("abcdefghijklmnopq", "?a:8"), api.ErrName}, {list("a b", "1:8"), api.ErrName}, {list("abcdefghijklmnop", "?a:8"), api.OK},
		{list("", "?a:8", "", "?a:0"), api.ErrWidth}, {list("A", "?a:8", "", "?a:0"), api.ErrName}, {list("", "?a:0", "A", "?a:8"), api.ErrWidth}, {list("", "?a:8", "", "?a:4", "A", "?a:8"), api.ErrName}, {list("", "?a:8", "", "?a:4", "", "x:8"), api.ErrOp},
		// Names in several atoms.
		{list("", "?a:8", "", "?a:4"), api.ErrBind}, {list("", "?a:8", "", "#a:8"), api.ErrBind}, {list("", "#a:8", "", "#a:4"), api.ErrBind}, {list("a", "1:8", "", "?a:4"), api.ErrBind}, {list("a", "1:8", "a", "1:4"), api.ErrBind}, {list("a", "1:8", "", "#a:8"), api.ErrBind}, {list("a", "#a:8"), api.ErrBind}, {list("a", "(eq ?a:8 ?b:8)"), api.ErrBind}, {list("", "(add #c:8 ?a:8)", "c", "?a:8"), api.ErrBind}, {list("", "?a:8", "", "?b:8", "", "?a:8", "", "(not #b:8)"), api.ErrBind},
		{list("a", "1:8", "", "?a:8"), api.OK}, {list("a", "1:8", "a", "2:8"), api.OK}, {list("a", "?a:8"), api.OK}, {list("a", "(add ?a:8 #c:8)", "", "#c:8"), api.OK}, {list("a", "(eq ?a:1 ?b:1)"), api.OK},
		// Numbers of names.
		{[]api.Atom{{Pattern: holes(0, 16)}, {Pattern: holes(5, 11)}}, api.OK}, {[]api.Atom{{Pattern: holes(0, 16)}, {Pattern: holes(1, 16)}}, api.ErrLong}, {[]api.Atom{{Pattern: holes(0, 16), Root: "h3"}}, api.OK}, {[]api.Atom{{Pattern: holes(0, 16), Root: "r"}}, api.ErrLong}, {[]api.Atom{{Pattern: holes(0, 15), Root: "r"}}, api.OK},
		{append(list("", "(add #c:8 #d:8)"), api.Atom{Pattern: holes(0, 15)}), api.ErrLong}, {append(list("", "(add #c:8 #c:8)"), api.Atom{Pattern: holes(0, 15)}), api.OK}, {append(list("", "#h1:8"), api.Atom{Pattern: holes(0, 15)}, api.Atom{Pattern: holes(14, 9)}), api.ErrBind},
	} {
		if e := program.CheckAtoms(c.atoms); e != c.want {
			t.Errorf("case %d: CheckAtoms is %d, not %d", i, e, c.want)
		}
		p, e := program.Compile(c.atoms)
		if e != c.want || e != api.OK && (len(p.Ins) > 0 || p.Regs != 0 || len(p.Roots) > 0 || len(p.Holes) > 0 || len(p.Nums) > 0) || e == api.OK && program.Check(p) != api.OK {
			t.Errorf("case %d: Compile is %v, %d, not %d", i, p, e, c.want)
		}
	}
}

// TestNames checks Names of P25.1, also for atoms that are not valid.
func TestNames(t *testing.T) {
	check := func(l []api.Atom, wantHoles, wantNums []api.Var) {
		t.Helper()
		holes, nums := program.Names(l)
		if !slices.Equal(holes, wantHoles) || !slices.Equal(nums, wantNums) {
			t.Errorf("the names of %v are %v, %v, not %v, %v", l, holes, nums, wantHoles, wantNums)
		}
	}
	check(nil, nil, nil)
	check(atoms(t, "", "(add ?b:8 (mul #d:8 ?a:8))", "r", "(sub #c:4 ?aa:4)"), []api.Var{{Name: "a", Width: 8}, {Name: "aa", Width: 4}, {Name: "b", Width: 8}, {Name: "r", Width: 4}}, []api.Var{{Name: "c", Width: 4}, {Name: "d", Width: 8}})
	// The first width counts, and a Root comes before its Pattern, but after those of the atoms before.
	check(atoms(t, "a", "(concat ?a:8 ?b:4)", "b", "?c:2", "", "?c:3"), []api.Var{{Name: "a", Width: 12}, {Name: "b", Width: 4}, {Name: "c", Width: 2}}, nil)
	check(atoms(t, "c", "#c:8", "", "#c:4"), []api.Var{{Name: "c", Width: 8}}, []api.Var{{Name: "c", Width: 8}})
	check([]api.Atom{{Root: "A b", Pattern: api.Term{Op: 77, Width: -3, Args: []api.Term{{Op: api.OpNum, Name: "?"}}}}, {}}, []api.Var{{Name: "A b", Width: -3}}, []api.Var{{Name: "?"}})
	check(atoms(t, "", "(eval #c:8)", "", "x:8", "", "1:8", "", "?z:0", "", "?y:0"), []api.Var{{Name: "y"}, {Name: "z"}}, []api.Var{{Name: "c", Width: 8}})
}

// show returns a text for a program.
func show(p api.MProg) string {
	var s string
	for _, i := range p.Ins {
		s += strconv.Itoa(i.Kind) + " " + strconv.Itoa(i.A) + " " + strconv.Itoa(i.B) + " " + strconv.Itoa(int(i.Node.Op)) + " " + termtext.Print(i.Term) + "\n"
	}
	return s
}

// TestExample checks the example of chapter 25.
func TestExample(t *testing.T) {
	p, e := program.Compile(atoms(t, "", "(add ?a:8 ?a:8)"))
	want := api.MProg{Ins: []api.MInstr{{Kind: api.MScan}, {Kind: api.MBind, B: 1, Node: api.Node{Op: api.OpAdd, Width: 8}}, {Kind: api.MSame, A: 1, B: 2}}}
	if e != api.OK || show(p) != show(want) || p.Ins[1].Node.Width != 8 || p.Regs != 3 || !slices.Equal(p.Roots, []int{0}) || !slices.Equal(p.Holes, []api.Slot{{Name: "a", Reg: 1}}) || len(p.Nums) != 0 {
		t.Error(p, e)
	}
}

// TestScans checks that classes are scanned only for roots that nothing determines.
func TestScans(t *testing.T) {
	for i, c := range []struct {
		atoms []api.Atom
		scans int
	}{
		{atoms(t, "", "(add ?a:8 ?b:8)", "a", "(mul ?b:8 ?c:8)", "c", "(not ?d:8)"), 1}, {atoms(t, "r", "(add ?a:8 ?b:8)", "r", "(mul ?b:8 ?c:8)"), 1}, {atoms(t, "", "(add (not ?a:8) ?b:8)", "", "(not ?a:8)", "", "?b:8"), 1}, {atoms(t, "", "(not ?a:8)", "", "(neg ?a:8)"), 2}, {atoms(t, "", "?a:8", "", "?b:8", "", "1:8", "", "#c:8"), 4},
	} {
		p, e := program.Compile(c.atoms)
		scans := 0
		for _, ins := range p.Ins {
			if ins.Kind == api.MScan {
				scans++
			}
		}
		if e != api.OK || scans != c.scans {
			t.Errorf("case %d: %d scans, %d, not %d", i, scans, e, c.scans)
		}
	}
}

// tree returns a full binary tree of the given depth over a leaf.
func tree(depth int, leaf api.Term) api.Term {
	p := leaf
	for range depth - 1 {
		p = term.Make(api.OpXor, p, p)
	}
	return p
}

// grove returns a pattern of about 3400 nodes, which consists of chains of operators not and neg that differ from each other, and from those for other numbers.
func grove(number int) api.Term {
	var parts []api.Term
	for i := range 64 {
		p := chain(1)
		for k := range 51 {
			op := api.OpNot
			if (number*64+i)>>(k%8)&1 == 1 {
				op = api.OpNeg
			}
			p = term.Make(op, p)
		}
		parts = append(parts, p)
	}
	for len(parts) > 1 {
		parts = append(parts[2:], term.Make(api.OpAdd, parts[0], parts[1]))
	}
	return parts[0]
}

// TestLimits checks P25.2 and P25.4 for the greatest patterns.
func TestLimits(t *testing.T) {
	greatest := term.Make(api.OpNot, tree(12, chain(1)))
	ground := term.Make(api.OpNeg, tree(12, term.Const(8, 1)))
	mixed := term.Make(api.OpSub, tree(11, chain(1)), tree(11, api.Term{Op: api.OpNum, Width: 8, Name: "c"}))
	if term.Size(greatest) != api.MaxSize || term.Size(ground) != api.MaxSize {
		t.Fatal(term.Size(greatest), term.Size(ground))
	}
	for _, p := range []api.Term{greatest, ground, mixed, grove(0), grove(1), chain(64), holes(0, 15)} {
		checkLimits(t, api.Atom{Pattern: p})
		checkLimits(t, api.Atom{Pattern: p, Root: "r"})
	}
	checkLimits(t, api.Atom{Pattern: holes(0, 16)})
	checkLimits(t, api.Atom{Pattern: greatest}, api.Atom{Root: "r", Pattern: greatest}, api.Atom{Root: "s", Pattern: mixed}, api.Atom{Root: "r", Pattern: ground})
	// No program is great enough for all patterns, but Plan goes beyond the limits.
	list := []api.Atom{{Pattern: grove(0)}, {Pattern: grove(1)}, {Pattern: grove(2)}, {Pattern: grove(3)}}
	if p, e := program.Compile(list); e != api.ErrLong || len(p.Ins) > 0 {
		t.Errorf("four large atoms: %d instructions, %d", len(p.Ins), e)
	}
	if p, e := program.Plan(list); e != api.OK || len(p.Ins) < 3*4000 || len(p.Roots) != 4 || program.Check(p) != api.ErrForm {
		t.Errorf("four large atoms: a plan of %d instructions, %d", len(p.Ins), e)
	}
}

// TestPlan checks that Plan returns what Compile returns, if that is not too long.
func TestPlan(t *testing.T) {
	for _, list := range [][]api.Atom{nil, atoms(t, "", "x:8"), atoms(t, "", "?a:0"), atoms(t, "A", "?a:8"), atoms(t, "", "?a:8", "", "?a:4"), atoms(t, "r", "(add ?a:8 #c:8)", "a", "(mul ?b:8 (not 1:8))"), {{Pattern: grove(0)}}} {
		p, e := program.Plan(list)
		q, f := program.Compile(list)
		if e != f || show(p) != show(q) || p.Regs != q.Regs || !slices.Equal(p.Roots, q.Roots) || !slices.Equal(p.Holes, q.Holes) || !slices.Equal(p.Nums, q.Nums) {
			t.Errorf("%v: %v, %d, not %v, %d", list, p, e, q, f)
		}
	}
}

// checkLimits checks that valid atoms are compiled within the limits.
func checkLimits(t *testing.T, list ...api.Atom) {
	t.Helper()
	nodes := 0
	for _, a := range list {
		nodes += term.Size(a.Pattern)
	}
	p, e := program.Compile(list)
	if e != api.OK || program.Check(p) != api.OK || len(p.Ins) > 3*nodes+8 || len(p.Roots) != len(list) {
		t.Errorf("%d instructions for %d nodes, %d", len(p.Ins), nodes, e)
	}
}

// TestCopy checks Copy of P25.4.
func TestCopy(t *testing.T) {
	build := func() api.MProg {
		return api.MProg{
			Ins:   []api.MInstr{{Kind: 9, A: 1, B: 2, Node: api.Node{Op: 3, Width: 4, Val: 5, Name: "n", Args: []int{6, 7}}, Term: term.Make(api.OpNot, term.Var("x", 8)), Name: "m"}, {}},
			Regs:  -3,
			Roots: []int{8, 9}, Holes: []api.Slot{{Name: "h", Reg: 10}}, Nums: []api.Slot{{Name: "k", Reg: 11}},
		}
	}
	p := build()
	c := program.Copy(p)
	same := func(p, q api.MProg) bool {
		return show(p) == show(q) && p.Regs == q.Regs && slices.Equal(p.Roots, q.Roots) && slices.Equal(p.Holes, q.Holes) && slices.Equal(p.Nums, q.Nums) && slices.EqualFunc(p.Ins, q.Ins, func(i, k api.MInstr) bool {
			return i.Name == k.Name && i.Node.Width == k.Node.Width && i.Node.Val == k.Node.Val && i.Node.Name == k.Node.Name && slices.Equal(i.Node.Args, k.Node.Args)
		})
	}
	if !same(c, build()) {
		t.Error("the copy differs:", c)
	}
	c.Ins[1].Kind, c.Ins[0].Node.Args[0], c.Ins[0].Term.Args[0].Name, c.Roots[0], c.Holes[0].Reg, c.Nums[0].Reg = 1, 0, "y", 0, 0, 0
	if !same(p, build()) {
		t.Error("the copy shares memory:", p)
	}
}

// TestMemory checks general rule 5 for Compile.
func TestMemory(t *testing.T) {
	list := atoms(t, "", "(add ?a:8 (not (not 1:8)))")
	p, _ := program.Compile(list)
	before := show(p)
	list[0].Pattern.Args[1].Args[0].Args[0].Val = 7
	list[0].Pattern.Args[1].Args[0].Op = api.OpNeg
	if show(p) != before {
		t.Error("the program shares memory with the atoms")
	}
}
