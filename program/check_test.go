package program_test

import (
	"math"
	"strconv"
	"testing"

	"saturate/api"
	"saturate/program"
	"saturate/term"
)

// sample returns a valid program with instructions of all kinds.
func sample() api.MProg {
	return api.MProg{
		Ins: []api.MInstr{
			{Kind: api.MScan, A: 2},
			{Kind: api.MBind, A: 2, B: 3, Node: api.Node{Op: api.OpIte, Width: 8}},
			{Kind: api.MSame, A: 4, B: 5},
			{Kind: api.MNum, A: 4, B: 15},
			{Kind: api.MLookup, A: 3, Term: term.Const(1, 1)},
			{Kind: api.MWidth, A: 5, B: 8},
			{Kind: api.MScan, A: 0},
			{Kind: api.MNum, A: 0, B: 0},
		},
		Regs:  6,
		Roots: []int{2, 0},
		Holes: []api.Slot{{Name: "a", Reg: 4}, {Name: "b", Reg: 2}},
		Nums:  []api.Slot{{Name: "a", Reg: 15}, {Name: "c", Reg: 0}},
	}
}

// bind returns an instruction that binds the Args of the nodes of a class with an operator.
func bind(op api.Op, first int) api.MInstr {
	return api.MInstr{Kind: api.MBind, A: 2, B: first, Node: api.Node{Op: op, Width: 8}}
}

// slots returns n slots with increasing names.
func slots(n, reg int) []api.Slot {
	var l []api.Slot
	for i := range n {
		l = append(l, api.Slot{Name: string(rune('a' + i)), Reg: reg})
	}
	return l
}

// scans returns a program that scans n classes.
func scans(n int) api.MProg {
	p := api.MProg{Regs: n, Roots: []int{0}}
	for i := range n {
		p.Ins = append(p.Ins, api.MInstr{Kind: api.MScan, A: i})
	}
	return p
}

// TestCheckForm checks P25.3 for changes of a valid program that make it invalid.
func TestCheckForm(t *testing.T) {
	if e := program.Check(sample()); e != api.OK {
		t.Fatal(e)
	}
	for i, change := range []func(p *api.MProg){
		func(p *api.MProg) { p.Regs = 5 }, func(p *api.MProg) { p.Regs = 0 }, func(p *api.MProg) { p.Regs = -1 }, func(p *api.MProg) { p.Regs = 4097 }, func(p *api.MProg) { p.Regs = math.MaxInt }, func(p *api.MProg) { p.Regs = math.MinInt },
		func(p *api.MProg) { p.Ins[0].Kind = 0 }, func(p *api.MProg) { p.Ins[2].Kind = 7 }, func(p *api.MProg) { p.Ins[2].Kind = -1 }, func(p *api.MProg) { p.Ins[5].Kind = 0 }, func(p *api.MProg) { p.Ins[5].Kind = math.MaxInt },
		// Registers that are out of range, or not set before.
		func(p *api.MProg) { p.Ins[0].A = -1 }, func(p *api.MProg) { p.Ins[6].A = 6 }, func(p *api.MProg) { p.Ins[6].A = math.MaxInt },
		func(p *api.MProg) { p.Ins[1].A = 6 }, func(p *api.MProg) { p.Ins[1].A = -1 }, func(p *api.MProg) { p.Ins[1].A = 0 }, func(p *api.MProg) { p.Ins[1].A = 3 },
		func(p *api.MProg) { p.Ins[1].B = 4 }, func(p *api.MProg) { p.Ins[1].B = -1 }, func(p *api.MProg) { p.Ins[1].B = math.MaxInt }, func(p *api.MProg) { p.Ins[1].B = math.MinInt }, func(p *api.MProg) { p.Ins[1].B = 0 }, func(p *api.MProg) { p.Ins[1].B = 1 }, func(p *api.MProg) { p.Ins[1].B = 2 },
		func(p *api.MProg) { p.Ins[2].A = 0 }, func(p *api.MProg) { p.Ins[2].B = 0 }, func(p *api.MProg) { p.Ins[2].A = -1 }, func(p *api.MProg) { p.Ins[2].B = 6 }, func(p *api.MProg) { p.Ins[2].A = 1 }, func(p *api.MProg) { p.Ins[2].B = 1 },
		func(p *api.MProg) { p.Ins[3].A = 0 }, func(p *api.MProg) { p.Ins[3].A = 6 }, func(p *api.MProg) { p.Ins[3].B = -1 }, func(p *api.MProg) { p.Ins[3].B = 16 }, func(p *api.MProg) { p.Ins[3].B = math.MaxInt }, func(p *api.MProg) { p.Ins[3].B = 0 }, func(p *api.MProg) { p.Ins[7].B = 15 }, func(p *api.MProg) { p.Ins[7].B = 1 },
		func(p *api.MProg) { p.Ins[4].A = 0 }, func(p *api.MProg) { p.Ins[4].A = -1 }, func(p *api.MProg) { p.Ins[5].A = 0 }, func(p *api.MProg) { p.Ins[5].A = 6 }, func(p *api.MProg) { p.Ins[5].B = 0 }, func(p *api.MProg) { p.Ins[5].B = 65 }, func(p *api.MProg) { p.Ins[5].B = -1 },
		func(p *api.MProg) { p.Ins[0], p.Ins[1] = p.Ins[1], p.Ins[0] }, func(p *api.MProg) { p.Ins[6].A = 2 }, func(p *api.MProg) { p.Ins[6].A = 3 },
		// Registers that are set twice, and instructions after which nothing else is wrong.
		func(p *api.MProg) { p.Ins = append(p.Ins, api.MInstr{Kind: api.MScan, A: 2}) }, func(p *api.MProg) { p.Ins = append(p.Ins, api.MInstr{Kind: api.MScan, A: 5}) }, func(p *api.MProg) { p.Ins = append(p.Ins, api.MInstr{Kind: api.MScan, A: -1}) }, func(p *api.MProg) { p.Ins = append(p.Ins, api.MInstr{Kind: api.MScan, A: 6}) },
		func(p *api.MProg) { p.Ins = append(p.Ins, api.MInstr{Kind: api.MNum, A: 2, B: 15}) }, func(p *api.MProg) { p.Ins = append(p.Ins, api.MInstr{Kind: api.MNum, A: 2, B: 16}) }, func(p *api.MProg) { p.Ins = append(p.Ins, api.MInstr{Kind: api.MNum, A: 2, B: -1}) }, func(p *api.MProg) { p.Ins = append(p.Ins, api.MInstr{Kind: api.MNum, A: 1, B: 5}) },
		func(p *api.MProg) { p.Ins = append(p.Ins, bind(api.OpNot, 0)) }, func(p *api.MProg) { p.Ins = append(p.Ins, bind(api.OpNot, 6)) }, func(p *api.MProg) { p.Ins = append(p.Ins, bind(api.OpNot, -1)) }, func(p *api.MProg) { p.Ins = append(p.Ins, bind(api.OpAdd, 1)) }, func(p *api.MProg) { p.Ins = append(p.Ins, bind(api.OpAdd, 0)) }, func(p *api.MProg) { p.Regs++; p.Ins = append(p.Ins, bind(api.OpAdd, 5)) },
		func(p *api.MProg) { p.Ins = append(p.Ins, bind(api.OpHole, 1)) }, func(p *api.MProg) { p.Ins = append(p.Ins, bind(api.OpNum, 1)) }, func(p *api.MProg) { p.Ins = append(p.Ins, bind(api.OpEval, 1)) }, func(p *api.MProg) { p.Ins = append(p.Ins, bind(0, 1)) }, func(p *api.MProg) { p.Ins = append(p.Ins, bind(27, 1)) },
		// Nodes and terms.
		func(p *api.MProg) { p.Ins[1].Node.Op = 0 }, func(p *api.MProg) { p.Ins[1].Node.Op = 27 }, func(p *api.MProg) { p.Ins[1].Node.Op = -1 }, func(p *api.MProg) { p.Ins[1].Node.Op = api.OpHole }, func(p *api.MProg) { p.Ins[1].Node.Op = api.OpNum }, func(p *api.MProg) { p.Ins[1].Node.Op = api.OpEval }, func(p *api.MProg) { p.Ins[1].Node.Op = api.OpAdd }, func(p *api.MProg) { p.Ins[1].Node.Args = []int{3, 4, 5} },
		func(p *api.MProg) { p.Ins[4].Term = api.Term{} }, func(p *api.MProg) { p.Ins[4].Term.Op = api.OpHole }, func(p *api.MProg) { p.Ins[4].Term.Val = 2 }, func(p *api.MProg) { p.Ins[4].Term.Width = 0 }, func(p *api.MProg) { p.Ins[4].Term = chain(65) },
		// Roots, Holes and Nums.
		func(p *api.MProg) { p.Roots = nil }, func(p *api.MProg) { p.Roots = []int{0, 2, 3, 4, 5} }, func(p *api.MProg) { p.Roots[0] = 1 }, func(p *api.MProg) { p.Roots[1] = 6 }, func(p *api.MProg) { p.Roots[1] = -1 }, func(p *api.MProg) { p.Roots[1] = math.MaxInt },
		func(p *api.MProg) { p.Holes[0].Reg = 1 }, func(p *api.MProg) { p.Holes[1].Reg = 6 }, func(p *api.MProg) { p.Holes[1].Reg = -1 }, func(p *api.MProg) { p.Holes[1].Name = "a" }, func(p *api.MProg) { p.Holes[0].Name = "bb" }, func(p *api.MProg) { p.Holes[1].Name = "" },
		func(p *api.MProg) { p.Nums[0].Reg = 1 }, func(p *api.MProg) { p.Nums[1].Reg = 16 }, func(p *api.MProg) { p.Nums[1].Reg = -1 }, func(p *api.MProg) { p.Nums[1].Name = "a" }, func(p *api.MProg) { p.Nums[0].Name = "d" },
		func(p *api.MProg) { p.Holes = slots(15, 0) }, func(p *api.MProg) { p.Nums = slots(15, 0) }, func(p *api.MProg) { p.Holes, p.Nums = slots(17, 0), nil }, func(p *api.MProg) { p.Holes, p.Nums = nil, slots(17, 0) },
	} {
		p := sample()
		change(&p)
		if e := program.Check(p); e != api.ErrForm {
			t.Errorf("change %d: %d", i, e)
		}
	}
}

// TestCheckAllowed checks P25.3 for changes of a valid program that leave it valid.
func TestCheckAllowed(t *testing.T) {
	for i, change := range []func(p *api.MProg){
		func(p *api.MProg) { p.Regs = 4096 },
		func(p *api.MProg) {
			*p = api.MProg{Ins: []api.MInstr{{Kind: api.MScan}}, Regs: 1, Roots: []int{0, 0, 0, 0}}
		},
		func(p *api.MProg) { p.Holes, p.Nums = slots(14, 0), p.Nums[:2] }, func(p *api.MProg) { p.Holes, p.Nums = slots(16, 0), nil }, func(p *api.MProg) { p.Holes, p.Nums = nil, slots(16, 15) }, func(p *api.MProg) { p.Holes, p.Nums = nil, nil },
		func(p *api.MProg) { p.Holes[0].Name = "" }, func(p *api.MProg) { p.Holes[1].Name = "Z z" + p.Holes[1].Name; p.Holes[0].Name = "A" }, func(p *api.MProg) { p.Holes[1].Reg = 4 },
		func(p *api.MProg) { p.Ins[2].B = 4 }, func(p *api.MProg) { p.Ins[5].B = 1 }, func(p *api.MProg) { p.Ins[5].B = 64 }, func(p *api.MProg) { p.Ins[4].Term = term.Var("x", 8) }, func(p *api.MProg) { p.Ins[3].B = 7; p.Nums[0].Reg = 7 },
		// Fields that a kind does not mention.
		func(p *api.MProg) {
			for k := range p.Ins {
				i := &p.Ins[k]
				i.Name = "A"
				if i.Kind != api.MBind {
					i.Node = api.Node{Op: 99, Args: []int{1}}
				} else {
					i.Node.Width, i.Node.Val, i.Node.Name = -5, 77, "?"
				}
				if i.Kind != api.MLookup {
					i.Term = api.Term{Op: 99, Args: []api.Term{{}}}
				}
				if i.Kind == api.MScan || i.Kind == api.MLookup {
					i.B = math.MinInt
				}
			}
		},
		// A leaf sets no registers.
		func(p *api.MProg) {
			for _, op := range []api.Op{api.OpVar, api.OpConst} {
				p.Ins = append(p.Ins, api.MInstr{Kind: api.MBind, A: 4, B: math.MaxInt, Node: api.Node{Op: op}}, api.MInstr{Kind: api.MBind, A: 4, B: 4, Node: api.Node{Op: op}}, api.MInstr{Kind: api.MBind, A: 4, B: -1, Node: api.Node{Op: op}})
			}
		},
		func(p *api.MProg) { p.Ins[1].Node.Op = api.OpAdd; p.Ins[1].B = 4; p.Ins[4].A = 2 },
		func(p *api.MProg) { p.Ins = append(p.Ins, bind(api.OpNot, 1)) }, func(p *api.MProg) { p.Regs++; p.Ins = append(p.Ins, bind(api.OpNot, 6)) }, func(p *api.MProg) { p.Regs = 8; p.Ins = append(p.Ins, bind(api.OpAdd, 6)) },
		func(p *api.MProg) { p.Ins = append(p.Ins, api.MInstr{Kind: api.MNum, A: 2, B: 14}) }, func(p *api.MProg) { p.Ins = append(p.Ins, api.MInstr{Kind: api.MScan, A: 1}) },
	} {
		p := sample()
		change(&p)
		if e := program.Check(p); e != api.OK {
			t.Errorf("change %d: %d", i, e)
		}
	}
}

// TestCheckLimits checks the numbers of registers and instructions of P25.3.
func TestCheckLimits(t *testing.T) {
	if e := program.Check(scans(4096)); e != api.OK {
		t.Error(e)
	}
	if e := program.Check(scans(4097)); e != api.ErrForm {
		t.Error(e)
	}
	if e := program.Check(api.MProg{}); e != api.ErrForm {
		t.Error(e)
	}
	for _, n := range []int{8191, 8192, 8193} {
		p := scans(1)
		for len(p.Ins) < n {
			p.Ins = append(p.Ins, api.MInstr{Kind: api.MSame})
		}
		if e := program.Check(p); (e == api.OK) != (n <= 8192) || e != api.OK && e != api.ErrForm {
			t.Errorf("%s instructions: %d", strconv.Itoa(n), e)
		}
	}
}
