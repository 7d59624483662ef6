package machine_test

import (
	"maps"
	"math/rand/v2"
	"slices"
	"strconv"
	"testing"

	"saturate/api"
	"saturate/egraph"
	"saturate/machine"
	"saturate/opinfo"
	"saturate/program"
	"saturate/represent"
)

// naive executes a program as chapter 25 describes it, from an instruction on.
type naive struct {
	g       *egraph.Graph
	p       api.MProg
	classes [64]int
	values  [16]uint64
	found   map[string]api.Match
}

func (x *naive) run(at int) {
	if at == len(x.p.Ins) {
		x.finish()
		return
	}
	i := x.p.Ins[at]
	switch i.Kind {
	case api.MScan:
		for _, class := range x.g.Classes() {
			x.classes[i.A] = class
			x.run(at + 1)
		}
	case api.MBind:
		for _, n := range x.g.Nodes(x.classes[i.A]) {
			if n.Op == i.Node.Op && n.Width == i.Node.Width && n.Val == i.Node.Val && n.Name == i.Node.Name {
				for k, arg := range n.Args {
					x.classes[i.B+k] = arg
				}
				x.run(at + 1)
			}
		}
	case api.MNum:
		for _, n := range x.g.Nodes(x.classes[i.A]) {
			if n.Op == api.OpConst {
				x.values[i.B] = n.Val
				x.run(at + 1)
			}
		}
	case api.MSame:
		if x.classes[i.A] == x.classes[i.B] {
			x.run(at + 1)
		}
	case api.MLookup:
		if represent.Has(x.g, x.classes[i.A], i.Term) {
			x.run(at + 1)
		}
	case api.MWidth:
		if x.g.Width(x.classes[i.A]) == i.B {
			x.run(at + 1)
		}
	}
}

func (x *naive) finish() {
	var m api.Match
	var key string
	for _, reg := range x.p.Roots {
		m.Roots = append(m.Roots, x.classes[reg])
		key += strconv.Itoa(x.classes[reg]) + " "
	}
	for _, s := range x.p.Holes {
		m.Holes = append(m.Holes, api.Pair{Name: s.Name, Id: x.classes[s.Reg]})
		key += strconv.Itoa(x.classes[s.Reg]) + " "
	}
	for _, s := range x.p.Nums {
		m.Nums = append(m.Nums, api.Bind{Name: s.Name, Val: x.values[s.Reg]})
		key += strconv.FormatUint(x.values[s.Reg], 10) + " "
	}
	x.found[key] = m
}

// randomProgram returns a program for an e-graph, in which the registers are numbered at random.
func randomProgram(r *rand.Rand, g *egraph.Graph) api.MProg {
	var p api.MProg
	nums := 0
	known := func() int { return r.IntN(p.Regs) }
	for len(p.Ins) < 2+r.IntN(10) {
		n, _ := g.Node(r.IntN(g.Len()))
		t, _ := represent.Term(g, r.IntN(g.Len()))
		i := api.MInstr{Kind: 1 + r.IntN(6)}
		switch {
		case p.Regs == 0 || i.Kind == api.MScan:
			i = api.MInstr{Kind: api.MScan, A: p.Regs}
			if p.Regs > 12 {
				continue
			}
			p.Regs++
		case i.Kind == api.MBind:
			i.A, i.B, i.Node = known(), p.Regs, api.Node{Op: n.Op, Width: n.Width, Val: n.Val, Name: n.Name}
			p.Regs += opinfo.Arity(n.Op)
		case i.Kind == api.MSame:
			i.A, i.B = known(), known()
		case i.Kind == api.MNum:
			i.A, i.B = known(), nums
			nums++
		case i.Kind == api.MLookup:
			i.A, i.Term = known(), t
		default:
			i.A, i.B = known(), g.Width(r.IntN(g.Len()))
		}
		p.Ins = append(p.Ins, i)
	}
	for range 1 + r.IntN(2) {
		p.Roots = append(p.Roots, known())
	}
	for k := range r.IntN(3) {
		p.Holes = append(p.Holes, api.Slot{Name: "h" + strconv.Itoa(k), Reg: known()})
	}
	for k := range min(nums, r.IntN(3)) {
		p.Nums = append(p.Nums, api.Slot{Name: "n" + strconv.Itoa(k), Reg: r.IntN(nums)})
	}
	return p
}

// scans returns the number of instructions that take each class.
func scans(p api.MProg) int {
	n := 0
	for _, i := range p.Ins {
		if i.Kind == api.MScan {
			n++
		}
	}
	return n
}

// TestRandomPrograms checks Run of P26.2 for programs of all kinds.
func TestRandomPrograms(t *testing.T) {
	r := rand.New(rand.NewPCG(26, 1))
	some, idle := 0, 0
	for range 20000 {
		g := randomGraph(r, 3+r.IntN(12), r.IntN(5))
		if g.Len() == 0 {
			continue
		}
		p := randomProgram(r, g)
		if program.Check(p) != api.OK || scans(p) > 4 {
			continue
		}
		x := &naive{g: g, p: p, found: map[string]api.Match{}}
		x.run(0)
		want := slices.SortedFunc(maps.Values(x.found), machine.Compare)
		for _, most := range []int{api.MaxMatches, len(want), (len(want) + 1) / 2, 1, 2} {
			l, e := machine.Run(g, p, most)
			if first := want[:min(most, len(want))]; e != api.OK || !slices.EqualFunc(l, first, machine.Same) {
				t.Fatalf("Run of %v in %v with most %d is %v, %d, not %v", p, g.Dump(), most, l, e, first)
			}
		}
		if len(want) > 0 {
			some++
			if scans(p) > len(p.Roots)+len(p.Holes) {
				idle++
			}
		}
	}
	if some < 4000 || idle < 500 {
		t.Error("too few matches:", some, idle)
	}
}

// TestManyChoices checks that Run does not try choices that make no difference.
func TestManyChoices(t *testing.T) {
	g := variables(t, 6)
	x := read(t, "v3:8")
	for i, c := range []struct {
		tests func(reg int) []api.MInstr // after each scan
		want  []int                      // the classes
	}{
		{func(int) []api.MInstr { return nil }, []int{0, 1, 2, 3, 4, 5}},
		{func(reg int) []api.MInstr { return []api.MInstr{{Kind: api.MWidth, A: reg, B: 8}} }, []int{0, 1, 2, 3, 4, 5}},
		{func(reg int) []api.MInstr {
			return []api.MInstr{{Kind: api.MWidth, A: reg, B: 8}, {Kind: api.MSame, A: reg, B: reg}}
		}, []int{0, 1, 2, 3, 4, 5}},
		{func(reg int) []api.MInstr { return []api.MInstr{{Kind: api.MLookup, A: reg, Term: x}} }, []int{3}},
		{func(reg int) []api.MInstr { return []api.MInstr{{Kind: api.MWidth, A: reg, B: 8 - reg/2000}} }, nil},
	} {
		for _, told := range []int{0, 7, 2000} {
			p := api.MProg{Regs: 2001, Roots: []int{told}}
			for reg := range p.Regs {
				p.Ins = append(p.Ins, api.MInstr{Kind: api.MScan, A: reg})
				p.Ins = append(p.Ins, c.tests(reg)...)
			}
			l, e := machine.Run(g, p, 100)
			var classes []int
			for _, m := range l {
				classes = append(classes, m.Roots...)
			}
			if e != api.OK || !slices.Equal(classes, c.want) {
				t.Errorf("case %d, register %d: %v, %d, not %v", i, told, classes, e, c.want)
			}
		}
	}
	// The first choice of each pair makes a difference until the second one is made.
	p := api.MProg{Regs: 2001, Roots: []int{2000}}
	for reg := 0; reg < 2000; reg += 2 {
		p.Ins = append(p.Ins, api.MInstr{Kind: api.MScan, A: reg}, api.MInstr{Kind: api.MScan, A: reg + 1}, api.MInstr{Kind: api.MSame, A: reg + 1, B: reg}, api.MInstr{Kind: api.MWidth, A: reg, B: 8})
	}
	p.Ins = append(p.Ins, api.MInstr{Kind: api.MScan, A: 2000})
	if l, e := machine.Run(g, p, 100); e != api.OK || len(l) != 6 {
		t.Error(l, e)
	}
}
