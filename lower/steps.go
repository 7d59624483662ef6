package lower

import (
	"saturate/api"
	"saturate/isa"
)

// step is a computation: an operation, whose sources are the numbers of steps before
// it; a const (MMovi); or the initial value of a register (MNop).
type step struct {
	op      api.MOp
	imm     uint64 // the value of a const, or the register of an initial value
	sources [3]int
}

// generator collects the different steps for terms.
type generator struct {
	width   int
	steps   []step
	numbers map[step]int
	told    [api.MaxRegs]int // by register, the step that it has to have at the end
}

// none stands for a missing step or register.
const none = -1

// nothing returns an array that gives no step to any register.
func nothing() [api.MaxRegs]int {
	var steps [api.MaxRegs]int
	for r := range steps {
		steps[r] = none
	}
	return steps
}

func newGenerator(w int, terms []api.Term, out []int) *generator {
	g := &generator{width: w, numbers: map[step]int{}, told: nothing()}
	for k, t := range terms {
		g.told[out[k]] = code(g, w, t)
	}
	return g
}

// coder adds the steps for a value or a flag, and returns the number of the one that
// computes it.
type coder interface {
	value(t api.Term) int
	flag(t api.Term) int
}

// code adds the steps for a term. If the width of the machine is 1, the steps for
// values are right for flags, too.
func code(c coder, width int, t api.Term) int {
	if t.Width == width {
		return c.value(t)
	}
	return c.flag(t)
}

// isOperation reports whether a step is an operation.
func (g *generator) isOperation(n int) bool {
	return isa.Sources(g.steps[n].op) > 0
}

func (g *generator) isConst(n int) bool {
	return g.steps[n].op == api.MMovi
}

// sources returns the sources of a step.
func (g *generator) sources(n int) []int {
	s := g.steps[n]
	return s.sources[:isa.Sources(s.op)]
}

// add returns the number of a step.
func (g *generator) add(s step) int {
	n, ok := g.numbers[s]
	if !ok {
		n = len(g.steps)
		g.numbers[s] = n
		g.steps = append(g.steps, s)
	}
	return n
}

// combine adds the step that applies an operation to terms.
func (g *generator) combine(op api.MOp, args ...api.Term) int {
	s := step{op: op}
	for k, arg := range args {
		s.sources[k] = code(g, g.width, arg)
	}
	return g.add(s)
}

// value adds the steps for a value.
func (g *generator) value(t api.Term) int {
	switch t.Op {
	case api.OpVar:
		return g.add(step{op: api.MNop, imm: uint64(t.Name[1] - '0')})
	case api.OpConst:
		return g.add(step{op: api.MMovi, imm: t.Val})
	case api.OpZext:
		return code(g, g.width, t.Args[0]) // it is 0 or 1 already
	case api.OpIte:
		return g.choose(t.Args[0], t.Args[1], t.Args[2])
	}
	return g.combine(operation(t.Op), t.Args...)
}

// flag adds the steps for a flag of a machine whose width is not 1.
func (g *generator) flag(t api.Term) int {
	if t.Op == api.OpNot {
		return g.combine(api.MXor, t.Args[0], api.Term{Op: api.OpConst, Width: 1, Val: 1})
	}
	return g.value(t)
}

// choose adds the steps for a term that depends on a condition.
func (g *generator) choose(cond, yes, no api.Term) int {
	for {
		simpler, inverts, ok := simplify(cond)
		if !ok {
			return g.combine(api.MSel, cond, yes, no)
		}
		cond = simpler
		if inverts {
			yes, no = no, yes
		}
	}
}

// simplify returns an operand of a condition that can take its place, because it is 0
// exactly if the condition is 0, or exactly if it is not: then it inverts the condition.
func simplify(cond api.Term) (simpler api.Term, inverts, ok bool) {
	switch {
	case cond.Op == api.OpZext:
		return cond.Args[0], false, true
	case cond.Op == api.OpNot && cond.Width == 1:
		return cond.Args[0], true, true
	case cond.Op == api.OpEq && isZero(cond.Args[1]):
		return cond.Args[0], true, true
	case cond.Op == api.OpEq && isZero(cond.Args[0]):
		return cond.Args[1], true, true
	}
	return api.Term{}, false, false
}

func isZero(t api.Term) bool {
	return t.Op == api.OpConst && t.Val == 0
}

// operation returns the operation of the machine that does the same as an operator.
func operation(op api.Op) api.MOp {
	return [...]api.MOp{
		api.OpNot: api.MNot, api.OpNeg: api.MNeg,
		api.OpAnd: api.MAnd, api.OpOr: api.MOr, api.OpXor: api.MXor,
		api.OpAdd: api.MAdd, api.OpSub: api.MSub, api.OpMul: api.MMul,
		api.OpUdiv: api.MDiv, api.OpUrem: api.MRem,
		api.OpShl: api.MShl, api.OpLshr: api.MShr, api.OpAshr: api.MSar,
		api.OpEq: api.MEq, api.OpUlt: api.MUlt, api.OpSlt: api.MSlt,
	}[op]
}
