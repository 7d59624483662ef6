package machine_test

import (
	"math"
	"math/rand/v2"
	"slices"
	"strconv"
	"testing"

	"saturate/api"
	"saturate/egraph"
	"saturate/machine"
	"saturate/program"
	"saturate/represent"
	"saturate/subst"
	"saturate/term"
	"saturate/termtext"
)

// read reads a pattern or a term.
func read(t *testing.T, s string) api.Term {
	t.Helper()
	p, e := termtext.Parse(s)
	if e != api.OK {
		t.Fatalf("%s: %d", s, e)
	}
	return p
}

// atoms reads atoms: each consists of a Root and a pattern.
func atoms(t *testing.T, l ...string) []api.Atom {
	t.Helper()
	var list []api.Atom
	for i := 0; i < len(l); i += 2 {
		list = append(list, api.Atom{Root: l[i], Pattern: read(t, l[i+1])})
	}
	return list
}

// graph returns an e-graph with terms.
func graph(t *testing.T, l ...string) *egraph.Graph {
	t.Helper()
	g := egraph.New()
	for _, s := range l {
		if _, e := represent.AddTerm(g, read(t, s)); e != api.OK {
			t.Fatalf("%s: %d", s, e)
		}
	}
	return g
}

// variables returns an e-graph with n vars of width 8.
func variables(t *testing.T, n int) *egraph.Graph {
	t.Helper()
	g := egraph.New()
	for k := range n {
		if _, e := g.Add(api.Node{Op: api.OpVar, Width: 8, Name: "v" + strconv.Itoa(k)}); e != api.OK {
			t.Fatal(e)
		}
	}
	return g
}

// unusable returns e-graphs that are nil or that New did not make.
func unusable(t *testing.T) []*egraph.Graph {
	var zero egraph.Graph
	used := *graph(t, "x:8")
	return []*egraph.Graph{nil, &zero, &used}
}

// TestExample checks the example of chapter 26.
func TestExample(t *testing.T) {
	g := graph(t, "(add x:8 x:8)", "(shl x:8 1:8)")
	g.Union(1, 3, 0)
	g.Rebuild()
	want := api.Match{Roots: []int{1}, Holes: []api.Pair{{Name: "a", Id: 0}}, Nums: []api.Bind{{Name: "c", Val: 1}}}
	list := atoms(t, "", "(shl ?a:8 #c:8)")
	if l, e := machine.Find(g, list, 10); e != api.OK || len(l) != 1 || !machine.Same(l[0], want) || !machine.Holds(g, list, want) {
		t.Error(l, e)
	}
}

// TestCompare checks P26.1: each of these matches is less than the next one.
func TestCompare(t *testing.T) {
	holes := func(l ...api.Pair) []api.Pair { return l }
	nums := func(l ...api.Bind) []api.Bind { return l }
	l := []api.Match{
		{},
		{Nums: nums(api.Bind{Name: "z"})},
		{Nums: nums(api.Bind{Name: "b"}, api.Bind{Name: "a"})},
		{Nums: nums(api.Bind{Name: "b"}, api.Bind{Name: "b"})},
		{Nums: nums(api.Bind{Name: "c"}, api.Bind{Name: "a"})},
		{Nums: nums(api.Bind{Name: "a", Val: 1})},
		{Nums: nums(api.Bind{Name: "a", Val: math.MaxUint64})},
		{Holes: holes(api.Pair{Name: "z", Id: -1}), Nums: nums(api.Bind{Name: "a", Val: 1})},
		{Holes: holes(api.Pair{Name: "z", Id: 2})},
		{Holes: holes(api.Pair{Name: "a", Id: 2}), Nums: nums(api.Bind{Name: "b", Val: 3})},
		{Holes: holes(api.Pair{Name: "a", Id: 2}), Nums: nums(api.Bind{Name: "c", Val: 3})},
		{Holes: holes(api.Pair{Name: "b", Id: 2}), Nums: nums(api.Bind{Name: "a", Val: 3})},
		{Holes: holes(api.Pair{Name: "a", Id: 2}), Nums: nums(api.Bind{Name: "a", Val: 4})},
		{Holes: holes(api.Pair{Name: "a", Id: 2}, api.Pair{Name: "a", Id: math.MinInt})},
		{Holes: holes(api.Pair{Name: "a", Id: 2}, api.Pair{Name: "b", Id: math.MinInt})},
		{Holes: holes(api.Pair{Name: "a", Id: 3})},
		{Holes: holes(api.Pair{Name: "a", Id: math.MaxInt})},
		{Roots: []int{math.MinInt}},
		{Roots: []int{1}, Holes: holes(api.Pair{Name: "z", Id: 9}), Nums: nums(api.Bind{Name: "z", Val: 9})},
		{Roots: []int{1, 0}},
		{Roots: []int{1, 2}},
		{Roots: []int{math.MaxInt}},
	}
	for i, a := range l {
		for k, b := range l {
			want := 0
			switch {
			case i < k:
				want = -1
			case i > k:
				want = 1
			}
			if c := machine.Compare(a, b); c != want || machine.Same(a, b) != (want == 0) {
				t.Errorf("Compare of %v and %v is %d, %v", a, b, c, machine.Same(a, b))
			}
		}
	}
	if machine.Compare(api.Match{Roots: []int{}, Holes: holes(), Nums: nums()}, api.Match{}) != 0 {
		t.Error("empty and nil slices differ")
	}
}

// TestErrors checks the errors of P26.2 and P26.3, and their order.
func TestErrors(t *testing.T) {
	good := atoms(t, "", "?a:8")
	p, _ := program.Compile(good)
	m := api.Match{Roots: []int{0}, Holes: []api.Pair{{Name: "a", Id: 0}}}
	dirty := graph(t, "x:8", "y:8")
	dirty.Union(0, 1, 0)
	for i, g := range append(unusable(t), dirty) {
		want := api.ErrNil
		if g == dirty {
			want = api.ErrDirty
		}
		for _, list := range [][]api.Atom{good, nil, atoms(t, "", "x:8")} {
			if l, e := machine.Find(g, list, 10); len(l) != 0 || e != want {
				t.Errorf("%d: Find is %v, %d", i, l, e)
			}
			if machine.Holds(g, list, m) {
				t.Errorf("%d: Holds", i)
			}
		}
		for _, p := range []api.MProg{p, {}} {
			if l, e := machine.Run(g, p, 10); len(l) != 0 || e != want {
				t.Errorf("%d: Run is %v, %d", i, l, e)
			}
		}
	}
	g := graph(t, "x:8", "y:8")
	if !machine.Holds(g, good, m) {
		t.Error("Holds is false")
	}
	for i, c := range []struct {
		list []api.Atom
		want api.Errno
	}{{nil, api.ErrLong}, {make([]api.Atom, 5), api.ErrLong}, {atoms(t, "", "x:8"), api.ErrOp}, {atoms(t, "", "?a:0"), api.ErrWidth}, {atoms(t, "A", "?a:8"), api.ErrName}, {atoms(t, "", "?a:8", "", "?a:4"), api.ErrBind}, {[]api.Atom{{}}, api.ErrOp}} {
		for _, most := range []int{-1, 0, 1} {
			if l, e := machine.Find(g, c.list, most); len(l) != 0 || e != c.want {
				t.Errorf("case %d: Find is %v, %d, not %d", i, l, e, c.want)
			}
		}
		if machine.Holds(g, c.list, m) || machine.Holds(g, c.list, api.Match{}) {
			t.Errorf("case %d: Holds", i)
		}
	}
	for i, p := range []api.MProg{{}, {Regs: -1, Roots: []int{0}}, {Regs: 1, Roots: []int{0}}, {Ins: []api.MInstr{{Kind: api.MScan, A: 1}}, Regs: 1, Roots: []int{1}}, {Ins: []api.MInstr{{Kind: api.MScan}, {Kind: 7}}, Regs: 1, Roots: []int{0}}, {Ins: []api.MInstr{{Kind: api.MScan}}, Regs: math.MaxInt, Roots: []int{0}}} {
		for _, most := range []int{-1, 0, 1} {
			if l, e := machine.Run(g, p, most); len(l) != 0 || e != api.ErrForm {
				t.Errorf("program %d: %v, %d", i, l, e)
			}
		}
	}
}

// TestHolds checks the form of matches that Holds requires (P26.3).
func TestHolds(t *testing.T) {
	g := graph(t, "(add x:8 3:8)", "y:8", "z:4") // the ids: x, 3, add, y, z
	g.Union(0, 3, 0)
	g.Rebuild()
	list := atoms(t, "r", "(add ?a:8 #c:8)", "", "?s:4")
	match := func() api.Match {
		return api.Match{Roots: []int{2, 4}, Holes: []api.Pair{{Name: "a", Id: 0}, {Name: "r", Id: 2}, {Name: "s", Id: 4}}, Nums: []api.Bind{{Name: "c", Val: 3}}}
	}
	if !machine.Holds(g, list, match()) {
		t.Fatal("the match does not hold")
	}
	for i, change := range []func(m *api.Match){
		func(m *api.Match) { m.Roots = m.Roots[:1] }, func(m *api.Match) { m.Roots = append(m.Roots, 4) }, func(m *api.Match) { m.Roots = nil }, func(m *api.Match) { m.Roots[0] = 0 }, func(m *api.Match) { m.Roots[1] = 3 }, func(m *api.Match) { m.Roots[1] = -1 }, func(m *api.Match) { m.Roots[0], m.Roots[1] = 4, 2 },
		func(m *api.Match) { m.Holes = m.Holes[:2] }, func(m *api.Match) { m.Holes = append(m.Holes, api.Pair{Name: "t", Id: 0}) }, func(m *api.Match) { m.Holes = append(m.Holes, m.Holes[2]) }, func(m *api.Match) { m.Holes = nil }, func(m *api.Match) { m.Holes[0], m.Holes[1] = m.Holes[1], m.Holes[0] }, func(m *api.Match) { m.Holes[0].Name = "b" },
		func(m *api.Match) { m.Holes[0].Id = 3 }, func(m *api.Match) { m.Holes[0].Id = 1 }, func(m *api.Match) { m.Holes[1].Id = 0 }, func(m *api.Match) { m.Holes[2].Id = 0 }, func(m *api.Match) { m.Holes[2].Id = -1 }, func(m *api.Match) { m.Holes[2].Id = math.MaxInt },
		func(m *api.Match) { m.Roots[1], m.Holes[2].Id = 0, 0 }, func(m *api.Match) { m.Roots[1], m.Holes[2].Id = -1, -1 }, func(m *api.Match) { m.Roots[1], m.Holes[2].Id = 5, 5 },
		func(m *api.Match) { m.Nums = nil }, func(m *api.Match) { m.Nums = append(m.Nums, api.Bind{Name: "d", Val: 3}) }, func(m *api.Match) { m.Nums[0].Name = "d" }, func(m *api.Match) { m.Nums[0].Val = 4 }, func(m *api.Match) { m.Nums[0].Val = 259 },
	} {
		m := match()
		change(&m)
		if machine.Holds(g, list, m) {
			t.Errorf("change %d: %v holds", i, m)
		}
	}
	// An id that is not the least one of its class, as the width -1 would allow it.
	if machine.Holds(g, atoms(t, "", "?a:8"), api.Match{Roots: []int{3}, Holes: []api.Pair{{Name: "a", Id: 3}}}) {
		t.Error("3 is the least id of its class")
	}
}

// TestMost checks the number of matches (P26.2).
func TestMost(t *testing.T) {
	g := variables(t, 300)
	pair := atoms(t, "", "?b:8", "", "?a:8")
	p, _ := program.Compile(pair)
	for most, want := range map[int]int{math.MinInt: 0, -1: 0, 0: 0, 1: 1, 2: 2, 301: 301, 65535: 65535, 65536: 65536, 65537: 65536, math.MaxInt: 65536} {
		found, e := machine.Find(g, pair, most)
		run, f := machine.Run(g, p, most)
		if e != api.OK || f != api.OK || len(found) != want || len(run) != want {
			t.Fatal(most, len(found), e, len(run), f)
		}
		for k, m := range found {
			want := api.Match{Roots: []int{k / 300, k % 300}, Holes: []api.Pair{{Name: "a", Id: k % 300}, {Name: "b", Id: k / 300}}}
			if !machine.Same(m, want) || !machine.Same(run[k], want) {
				t.Fatalf("match %d of %d is %v, not %v", k, most, m, want)
			}
		}
	}
	// There are too many matches to try all of them.
	four := atoms(t, "", "?d:8", "", "?c:8", "", "?b:8", "", "?a:8")
	l, e := machine.Find(g, four, 1000)
	if e != api.OK || len(l) != 1000 || !slices.Equal(l[999].Roots, []int{0, 0, 3, 99}) {
		t.Error(len(l), e)
	}
}

// TestPrograms checks Run for programs that Compile would not return.
func TestPrograms(t *testing.T) {
	g := graph(t, "(add x:8 1:8)", "(add y:8 1:8)", "2:4") // the ids: x, 1, add, y, add, 2:4
	g.Union(1, 3, 0)                                       // so that y is 1
	g.Rebuild()
	scan := func(reg int) api.MInstr { return api.MInstr{Kind: api.MScan, A: reg} }
	sum := api.Node{Op: api.OpAdd, Width: 8}
	for i, c := range []struct {
		p    api.MProg
		want []api.Match
	}{
		// Registers that are not told, and matches that are found several times.
		{api.MProg{Ins: []api.MInstr{scan(1), scan(0), scan(2)}, Regs: 3, Roots: []int{1}}, []api.Match{{Roots: []int{0}}, {Roots: []int{1}}, {Roots: []int{2}}, {Roots: []int{4}}, {Roots: []int{5}}}},
		{api.MProg{Ins: []api.MInstr{scan(0), {Kind: api.MBind, A: 0, B: 1, Node: sum}}, Regs: 3, Roots: []int{2}}, []api.Match{{Roots: []int{1}}}},
		// A root that is set last, and roots and holes in another order than the registers.
		{api.MProg{Ins: []api.MInstr{scan(2), {Kind: api.MBind, A: 2, B: 0, Node: sum}}, Regs: 3, Roots: []int{1, 0}, Holes: []api.Slot{{Name: "", Reg: 2}, {Name: "?", Reg: 0}}}, []api.Match{{Roots: []int{1, 0}, Holes: []api.Pair{{Name: "", Id: 2}, {Name: "?", Id: 0}}}, {Roots: []int{1, 1}, Holes: []api.Pair{{Name: "", Id: 4}, {Name: "?", Id: 1}}}}},
		// Kinds of leaves, and fields that do not matter.
		{api.MProg{Ins: []api.MInstr{scan(0), {Kind: api.MBind, B: -7, Node: api.Node{Op: api.OpVar, Width: 8, Name: "y"}}}, Regs: 1, Roots: []int{0, 0}}, []api.Match{{Roots: []int{1, 1}}}},
		{api.MProg{Ins: []api.MInstr{scan(0), {Kind: api.MBind, A: 0, B: 1, Node: api.Node{Op: api.OpConst, Width: 4, Val: 2}, Name: "n", Term: api.Term{Op: 99}}}, Regs: 1, Roots: []int{0}}, []api.Match{{Roots: []int{5}}}},
		{api.MProg{Ins: []api.MInstr{scan(0), {Kind: api.MBind, Node: api.Node{Op: api.OpConst, Width: 8, Val: 2}}}, Regs: 1, Roots: []int{0}}, nil},
		{api.MProg{Ins: []api.MInstr{scan(0), {Kind: api.MBind, Node: api.Node{Op: api.OpVar, Width: 4, Name: "y"}}}, Regs: 1, Roots: []int{0}}, nil},
		{api.MProg{Ins: []api.MInstr{scan(0), {Kind: api.MBind, Node: api.Node{Op: api.OpVar, Width: 8, Name: "z"}}}, Regs: 1, Roots: []int{0}}, nil},
		{api.MProg{Ins: []api.MInstr{scan(0), {Kind: api.MNum, A: 0, B: 15}}, Regs: 1, Roots: []int{0}, Nums: []api.Slot{{Name: "c", Reg: 15}}}, []api.Match{{Roots: []int{1}, Nums: []api.Bind{{Name: "c", Val: 1}}}, {Roots: []int{5}, Nums: []api.Bind{{Name: "c", Val: 2}}}}},
		{api.MProg{Ins: []api.MInstr{scan(0), {Kind: api.MNum}, scan(1), {Kind: api.MNum, A: 1, B: 1}}, Regs: 2, Roots: []int{0}, Nums: []api.Slot{{Name: "c", Reg: 1}, {Name: "d", Reg: 0}}}, []api.Match{{Roots: []int{1}, Nums: []api.Bind{{Name: "c", Val: 1}, {Name: "d", Val: 1}}}, {Roots: []int{1}, Nums: []api.Bind{{Name: "c", Val: 2}, {Name: "d", Val: 1}}}, {Roots: []int{5}, Nums: []api.Bind{{Name: "c", Val: 1}, {Name: "d", Val: 2}}}, {Roots: []int{5}, Nums: []api.Bind{{Name: "c", Val: 2}, {Name: "d", Val: 2}}}}},
		// Tests.
		{api.MProg{Ins: []api.MInstr{scan(0), {Kind: api.MLookup, Term: read(t, "(add x:8 y:8)")}}, Regs: 1, Roots: []int{0}}, []api.Match{{Roots: []int{2}}}},
		{api.MProg{Ins: []api.MInstr{scan(0), {Kind: api.MLookup, Term: read(t, "z:8")}}, Regs: 1, Roots: []int{0}}, nil},
		{api.MProg{Ins: []api.MInstr{scan(0), scan(1), {Kind: api.MLookup, Term: read(t, "y:8")}, {Kind: api.MLookup, A: 1, Term: read(t, "x:8")}}, Regs: 2, Roots: []int{0, 1}}, []api.Match{{Roots: []int{1, 0}}}},
		{api.MProg{Ins: []api.MInstr{scan(0), {Kind: api.MWidth, B: 4}}, Regs: 1, Roots: []int{0}}, []api.Match{{Roots: []int{5}}}},
		{api.MProg{Ins: []api.MInstr{scan(0), {Kind: api.MWidth, B: 7}}, Regs: 1, Roots: []int{0}}, nil},
		{api.MProg{Ins: []api.MInstr{scan(0), scan(1), {Kind: api.MSame, A: 0, B: 1}, {Kind: api.MWidth, A: 1, B: 4}}, Regs: 2, Roots: []int{0}}, []api.Match{{Roots: []int{5}}}},
	} {
		for most := range len(c.want) + 2 {
			l, e := machine.Run(g, c.p, most)
			if want := c.want[:min(most, len(c.want))]; e != api.OK || !slices.EqualFunc(l, want, machine.Same) {
				t.Errorf("program %d: %v, %d, not %v", i, l, e, want)
			}
		}
	}
}

// TestOrder checks that Run returns the first matches also if they are found in another order (P26.2).
func TestOrder(t *testing.T) {
	g := variables(t, 7)
	for _, order := range [][]int{{0, 1, 2}, {0, 2, 1}, {1, 0, 2}, {1, 2, 0}, {2, 0, 1}, {2, 1, 0}} {
		for _, between := range [][]api.MInstr{nil, {{Kind: api.MWidth, A: order[0], B: 8}}} {
			p := api.MProg{Regs: 3, Roots: []int{0, 1}, Holes: []api.Slot{{Name: "a", Reg: 2}}}
			for k, reg := range order {
				p.Ins = append(p.Ins, api.MInstr{Kind: api.MScan, A: reg})
				if k == 0 {
					p.Ins = append(p.Ins, between...)
				}
			}
			for most := range 7*7*7 + 2 {
				l, e := machine.Run(g, p, most)
				if e != api.OK || len(l) != min(most, 7*7*7) {
					t.Fatal(order, most, len(l), e)
				}
				for k, m := range l {
					if want := (api.Match{Roots: []int{k / 49, k / 7 % 7}, Holes: []api.Pair{{Name: "a", Id: k % 7}}}); !machine.Same(m, want) {
						t.Fatalf("%v with most %d: match %d is %v, not %v", order, most, k, m, want)
					}
				}
			}
		}
	}
}

// TestNodeOrder checks that the first matches are returned also if the nodes of a class have another order than they (P26.2).
func TestNodeOrder(t *testing.T) {
	r := rand.New(rand.NewPCG(26, 2))
	list := atoms(t, "", "(add ?b:8 ?a:8)")
	for range 50 {
		g := variables(t, 9)
		perm := r.Perm(9)
		for b, a := range perm {
			if _, e := g.Add(api.Node{Op: api.OpAdd, Width: 8, Args: []int{b, a}}); e != api.OK {
				t.Fatal(e)
			}
			g.Union(9, 9+b, api.WhyGiven)
		}
		g.Rebuild()
		for most := range 11 {
			l, e := machine.Find(g, list, most)
			if e != api.OK || len(l) != min(most, 9) {
				t.Fatal(perm, most, l, e)
			}
			for a, m := range l {
				want := api.Match{Roots: []int{9}, Holes: []api.Pair{{Name: "a", Id: a}, {Name: "b", Id: slices.Index(perm, a)}}}
				if !machine.Same(m, want) {
					t.Fatalf("%v with most %d: %v", perm, most, l)
				}
			}
		}
	}
}

// TestMemory checks general rule 5: matches share no memory, and a program keeps what is behind the end of its slices.
func TestMemory(t *testing.T) {
	roots := []int{0, 77}
	p := api.MProg{Ins: []api.MInstr{{Kind: api.MScan}}, Regs: 1, Roots: roots[:1], Holes: []api.Slot{{Name: "a"}}}
	if l, e := machine.Run(graph(t, "x:8"), p, 10); e != api.OK || len(l) != 1 || roots[1] != 77 {
		t.Error(l, e, roots)
	}
	g := graph(t, "(add x:8 1:8)", "(add y:8 2:8)")
	list := atoms(t, "", "(add ?a:8 #c:8)")
	l, _ := machine.Find(g, list, 10)
	for _, m := range l {
		m.Roots[0], m.Holes[0], m.Nums[0] = -9, api.Pair{}, api.Bind{}
	}
	again, e := machine.Find(g, list, 10)
	if e != api.OK || len(again) != 2 || again[1].Roots[0] != 5 || again[1].Holes[0].Id != 3 || again[1].Nums[0].Val != 2 || g.Len() != 6 {
		t.Error(again, e)
	}
}

// chain returns an operand with operators not, or with neg where a bit of a number is set.
func chain(p api.Term, nodes, number int) api.Term {
	for k := range nodes {
		op := api.OpNot
		if number>>(k%9)&1 == 1 {
			op = api.OpNeg
		}
		p = term.Make(op, p)
	}
	return p
}

// grove returns a pattern of about 3400 nodes, whose parts are different from each other and from those for other numbers.
func grove(number int, leaf api.Term) api.Term {
	var parts []api.Term
	for i := range 64 {
		parts = append(parts, chain(leaf, 51, number*64+i))
	}
	for len(parts) > 1 {
		parts = append(parts[2:], term.Make(api.OpAdd, parts[0], parts[1]))
	}
	return parts[0]
}

// TestLargeAtoms checks Find for atoms that are too large for a program, though they are valid (P26.2).
func TestLargeAtoms(t *testing.T) {
	g := egraph.New()
	var list []api.Atom
	var roots []int
	for number := range 4 {
		id, e := represent.AddTerm(g, grove(number, term.Var("x", 8)))
		if e != api.OK {
			t.Fatal(e)
		}
		roots = append(roots, id)
		list = append(list, api.Atom{Pattern: grove(number, api.Term{Op: api.OpHole, Width: 8, Name: "a"})})
	}
	if _, e := program.Compile(list); e == api.OK {
		t.Error("the atoms are not too large")
	}
	l, e := machine.Find(g, list, 10)
	want := api.Match{Roots: roots, Holes: []api.Pair{{Name: "a", Id: 0}}}
	if e != api.OK || len(l) != 1 || !machine.Same(l[0], want) || !machine.Holds(g, list, want) {
		t.Error(len(l), e)
	}
}

// TestTerms checks the last sentence of P26.4.
func TestTerms(t *testing.T) {
	texts := []string{"(add x:8 x:8)", "(add (mul x:8 3:8) (not y:8))", "(add (mul y:8 x:8) y:8)", "(sub (add x:8 y:8) (add x:8 y:8))", "(ite (ult x:8 3:8) (add x:8 y:8) (mul x:8 3:8))", "(zext 8 (ult x:8 y:8))", "3:8"}
	g := graph(t, texts...)
	for _, joined := range []bool{false, true} {
		if joined {
			x, _ := represent.Find(g, read(t, "x:8"))
			sum, _ := represent.Find(g, read(t, "(add x:8 x:8)"))
			g.Union(x, sum, 0)
			g.Rebuild()
		}
		found := 0
		for _, s := range texts {
			for _, pattern := range []string{"?a:8", "(add ?a:8 ?b:8)", "(add ?a:8 ?a:8)", "(add (mul ?a:8 #c:8) ?b:8)", "(add (mul ?a:8 ?b:8) ?a:8)", "(sub ?a:8 ?a:8)", "(sub (add ?a:8 ?b:8) ?c:8)", "(ite ?p:1 ?a:8 ?b:8)", "(ite (ult ?a:8 #c:8) ?b:8 (mul ?a:8 #c:8))", "(zext 8 ?p:1)", "#c:8", "(zext 8 (ult ?a:8 ?b:8))"} {
				p := read(t, pattern)
				subs, ok := subst.Match(p, read(t, s))
				if !ok {
					continue
				}
				found++
				m := api.Match{}
				root, _ := represent.Find(g, read(t, s))
				m.Roots = []int{root}
				holes, nums := program.Names([]api.Atom{{Pattern: p}})
				for _, v := range holes {
					x, _ := subst.Look(subs, v.Name)
					class, _ := represent.Find(g, x)
					m.Holes = append(m.Holes, api.Pair{Name: v.Name, Id: class})
				}
				for _, v := range nums {
					x, _ := subst.Look(subs, v.Name)
					m.Nums = append(m.Nums, api.Bind{Name: v.Name, Val: x.Val})
				}
				l, _ := machine.Find(g, []api.Atom{{Pattern: p}}, 100)
				if !slices.ContainsFunc(l, func(other api.Match) bool { return machine.Same(m, other) }) {
					t.Errorf("%s has no match for %s: %v", pattern, s, l)
				}
			}
		}
		if found < 15 {
			t.Error("there were only", found, "matches")
		}
	}
}
