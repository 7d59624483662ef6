package program

import (
	"saturate/api"
	"saturate/pattern"
	"saturate/term"
)

// compiler appends the instructions for atoms to a program. In an e-graph that is
// not dirty, only one class matches a pattern for given classes of its holes and
// values of its nums. So the compiler keeps a register for every pattern that it has
// matched, and where the pattern occurs again, the class has to be the same.
type compiler struct {
	prog    api.MProg
	numbers map[term.Shape]int // of the different patterns
	regs    map[int]int        // the registers of the patterns with these numbers
	values  map[string]int     // the number registers of the nums
}

// Compile is specified in P25.2.
func Compile(atoms []api.Atom) (api.MProg, api.Errno) {
	p, e := Plan(atoms)
	if e != api.OK {
		return api.MProg{}, e
	}
	if Check(p) != api.OK {
		// Several large atoms can need too many registers or instructions.
		return api.MProg{}, api.ErrLong
	}
	return p, api.OK
}

// Plan returns the error of CheckAtoms, and otherwise the program for atoms, which
// can exceed the limits of programs, but is valid otherwise.
func Plan(atoms []api.Atom) (api.MProg, api.Errno) {
	if e := CheckAtoms(atoms); e != api.OK {
		return api.MProg{}, e
	}
	c := &compiler{numbers: map[term.Shape]int{}, regs: map[int]int{}, values: map[string]int{}}
	for _, a := range atoms {
		c.addAtom(a)
	}
	c.tell(atoms)
	return c.prog, api.OK
}

// number returns a number that tells a pattern from different ones.
func (c *compiler) number(p api.Term) int {
	var operands []int
	for _, arg := range p.Args {
		operands = append(operands, c.number(arg))
	}
	shape := term.ShapeOf(p, operands)
	n, seen := c.numbers[shape]
	if !seen {
		n = len(c.numbers)
		c.numbers[shape] = n
	}
	return n
}

// known returns the register of a pattern that was matched before, and whether
// there is one.
func (c *compiler) known(p api.Term) (int, bool) {
	reg, ok := c.regs[c.number(p)]
	return reg, ok
}

// settle makes a register that of a pattern, or requires that it holds the class of
// the register that the pattern has already. It reports whether there was none.
func (c *compiler) settle(p api.Term, reg int) bool {
	n := c.number(p)
	first, ok := c.regs[n]
	switch {
	case !ok:
		c.regs[n] = reg
	case first != reg:
		c.add(api.MInstr{Kind: api.MSame, A: first, B: reg})
	}
	return !ok
}

func (c *compiler) add(i api.MInstr) {
	c.prog.Ins = append(c.prog.Ins, i)
}

// take returns the first one of n new registers.
func (c *compiler) take(n int) int {
	first := c.prog.Regs
	c.prog.Regs += n
	return first
}

// addAtom adds the instructions for an atom, whose root can be known already.
func (c *compiler) addAtom(a api.Atom) {
	root, ok := c.known(hole(a))
	if !ok {
		root, ok = c.known(a.Pattern)
	}
	if !ok {
		root = c.take(1)
		c.add(api.MInstr{Kind: api.MScan, A: root})
	}
	c.match(a.Pattern, root, ok)
	if a.Root != "" {
		c.settle(hole(a), root)
	}
	c.prog.Roots = append(c.prog.Roots, root)
}

// match adds the instructions that match a pattern with the class in a register.
// sized tells whether this class certainly has the width of the pattern.
func (c *compiler) match(p api.Term, reg int, sized bool) {
	if !c.settle(p, reg) {
		return
	}
	if isVariable(p) && !sized {
		c.add(api.MInstr{Kind: api.MWidth, A: reg, B: p.Width})
	}
	switch {
	case p.Op == api.OpHole:
	case p.Op == api.OpNum:
		value := len(c.values)
		c.values[p.Name] = value
		c.add(api.MInstr{Kind: api.MNum, A: reg, B: value})
	case pattern.Ground(p):
		c.add(api.MInstr{Kind: api.MLookup, A: reg, Term: term.Copy(p)})
	default:
		c.bind(p, reg)
	}
}

func isVariable(p api.Term) bool {
	return p.Op == api.OpHole || p.Op == api.OpNum
}

// bind adds the instructions that match a pattern with operands. Those operands that
// have none, or are ground, come first, because they exclude many nodes at once.
func (c *compiler) bind(p api.Term, reg int) {
	first := c.take(len(p.Args))
	root := api.Node{Op: p.Op, Width: p.Width, Val: p.Val}
	c.add(api.MInstr{Kind: api.MBind, A: reg, B: first, Node: root})
	for _, later := range []bool{false, true} {
		for i, arg := range p.Args {
			if compound := !isVariable(arg) && !pattern.Ground(arg); compound == later {
				c.match(arg, first+i, sizesOperands(p.Op))
			}
		}
	}
}

// sizesOperands reports whether the width of a node with an operator determines the
// widths of its operands.
func sizesOperands(op api.Op) bool {
	switch op {
	case api.OpEq, api.OpUlt, api.OpSlt, api.OpConcat, api.OpExtract, api.OpZext, api.OpSext:
		return false
	}
	return true
}

// tell adds the registers of the holes and nums.
func (c *compiler) tell(atoms []api.Atom) {
	holes, nums := Names(atoms)
	for _, v := range holes {
		reg, _ := c.known(api.Term{Op: api.OpHole, Width: v.Width, Name: v.Name})
		c.prog.Holes = append(c.prog.Holes, api.Slot{Name: v.Name, Reg: reg})
	}
	for _, v := range nums {
		c.prog.Nums = append(c.prog.Nums, api.Slot{Name: v.Name, Reg: c.values[v.Name]})
	}
}
