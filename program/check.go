package program

import (
	"slices"

	"saturate/api"
	"saturate/opinfo"
	"saturate/term"
)

// The limits of programs.
const (
	maxRegs = 4096
	maxIns  = 8192
)

// Check is specified in P25.3.
func Check(p api.MProg) api.Errno {
	if !isValid(p) {
		return api.ErrForm
	}
	return api.OK
}

func isValid(p api.MProg) bool {
	if p.Regs < 0 || p.Regs > maxRegs || len(p.Ins) > maxIns {
		return false
	}
	set := registers{make([]bool, p.Regs), make([]bool, api.MaxHoles)}
	for _, i := range p.Ins {
		if !set.allow(i) {
			return false
		}
	}
	return set.tell(p)
}

// registers tells which registers are set: those for classes, and those for
// numbers.
type registers [2][]bool

// bank selects registers.
type bank int

const (
	classes bank = iota
	numbers
)

// has reports whether a register is set.
func (r registers) has(b bank, reg int) bool {
	return 0 <= reg && reg < len(r[b]) && r[b][reg]
}

// assign sets n registers. It returns false if this is not allowed.
func (r registers) assign(b bank, first, n int) bool {
	if n == 0 {
		return true
	}
	if first < 0 || first > len(r[b])-n || slices.Contains(r[b][first:first+n], true) {
		return false
	}
	for i := range n {
		r[b][first+i] = true
	}
	return true
}

// allow performs an instruction, or returns false if it is not allowed.
func (r registers) allow(i api.MInstr) bool {
	if i.Kind == api.MScan {
		return r.assign(classes, i.A, 1)
	}
	if !r.has(classes, i.A) {
		return false
	}
	switch i.Kind {
	case api.MBind:
		return isOperator(i.Node) && r.assign(classes, i.B, opinfo.Arity(i.Node.Op))
	case api.MSame:
		return r.has(classes, i.B)
	case api.MNum:
		return r.assign(numbers, i.B, 1)
	case api.MLookup:
		return term.Check(i.Term) == api.OK
	case api.MWidth:
		return 1 <= i.B && i.B <= api.MaxWidth
	}
	return false
}

// isOperator reports whether n may be the node of a MBind.
func isOperator(n api.Node) bool {
	return opinfo.Arity(n.Op) >= 0 && !opinfo.Pattern(n.Op) && len(n.Args) == 0
}

// tell reports whether a program tells its matches as it has to, after its
// instructions have been performed.
func (r registers) tell(p api.MProg) bool {
	if len(p.Roots) < 1 || len(p.Roots) > api.MaxAtoms || len(p.Holes)+len(p.Nums) > api.MaxHoles {
		return false
	}
	unset := func(reg int) bool { return !r.has(classes, reg) }
	return !slices.ContainsFunc(p.Roots, unset) && r.tellSlots(classes, p.Holes) && r.tellSlots(numbers, p.Nums)
}

// tellSlots reports whether the registers of slots are set and their names increase.
func (r registers) tellSlots(b bank, l []api.Slot) bool {
	for i, s := range l {
		if !r.has(b, s.Reg) || i > 0 && l[i-1].Name >= s.Name {
			return false
		}
	}
	return true
}
