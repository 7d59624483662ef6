package lower

import (
	"slices"

	"saturate/api"
)

// allocation gives registers to steps and appends their instructions. A value stays
// in one register until it is not needed any more; only a const can be dropped, and
// set again when it is needed.
type allocation struct {
	*generator
	regs  int
	order []int            // the operations, in the order of their instructions
	place []int            // by step, its position in order; for a const, the one before the first use
	uses  [][]int          // by step, the increasing positions where it is needed; not the end, if it is a const
	held  [api.MaxRegs]int // by register, the step that it has
	ins   []api.Ins
}

func newAllocation(g *generator, regs int, order []int) *allocation {
	a := &allocation{generator: g, regs: regs, order: order, uses: make([][]int, len(g.steps))}
	a.place = slices.Repeat([]int{none}, len(g.steps))
	for at, n := range order {
		a.place[n] = at
		for _, source := range g.sources(n) {
			if g.isConst(source) && a.uses[source] == nil {
				a.place[source] = at - 1
			}
			a.uses[source] = append(a.uses[source], at)
		}
	}
	for _, n := range g.told {
		if n != none && !g.isConst(n) {
			a.uses[n] = append(a.uses[n], len(order))
		}
	}
	a.held = nothing()
	for n, s := range g.steps {
		if s.op == api.MNop {
			a.held[s.imm] = n
		}
	}
	return a
}

// run reports whether there are enough registers.
func (a *allocation) run() bool {
	for at, n := range a.order {
		if !a.load(n, at) {
			return false
		}
		a.vacate(n, at)
		i := api.Ins{Op: a.steps[n].op}
		fields := []*int{&i.A, &i.B, &i.C}
		for k, source := range a.sources(n) {
			*fields[k] = a.where(source)
		}
		i.Dst = a.pick(n, at, at+1)
		if i.Dst == none {
			return false
		}
		a.perform(i, n)
	}
	return a.tell()
}

// load sets registers to the consts that the operation at a position needs.
func (a *allocation) load(n, at int) bool {
	for _, source := range a.sources(n) {
		if a.where(source) != none {
			continue
		}
		r := a.pick(source, at, at)
		if r == none {
			return false
		}
		a.perform(a.set(r, source), source)
	}
	return true
}

// set returns the instruction that sets a register to a const.
func (a *allocation) set(r, n int) api.Ins {
	return api.Ins{Op: api.MMovi, Dst: r, Imm: a.steps[n].imm}
}

// perform appends the instruction for a step.
func (a *allocation) perform(i api.Ins, n int) {
	a.ins = append(a.ins, i)
	a.held[i.Dst] = n
}

// where returns the register that has a step, or none.
func (a *allocation) where(n int) int {
	return slices.Index(a.held[:], n)
}

// pick returns a register for a step that the operation at a position is, or needs.
// It has no value that is needed from another position on, except for a const if all
// registers have such values.
func (a *allocation) pick(n, at, from int) int {
	best, blocks := none, false
	for r := range a.regs {
		switch {
		case !a.isFree(r, from):
		case a.told[r] == n:
			return r
		case best == none || blocks && !a.blocks(n, r, at):
			best, blocks = r, a.blocks(n, r, at)
		}
	}
	if best == none {
		return a.victim(at, from)
	}
	return best
}

// isFree reports whether a register has no value that is needed from a position on.
func (a *allocation) isFree(r, from int) bool {
	n := a.held[r]
	return n == none || n != a.told[r] && a.next(n, from) > len(a.order)
}

// next returns the first position from a given one on where a step is needed, or a
// position after the end.
func (a *allocation) next(n, from int) int {
	k, _ := slices.BinarySearch(a.uses[n], from)
	if k == len(a.uses[n]) {
		return len(a.order) + 1
	}
	return a.uses[n][k]
}

// blocks reports whether a step would still be in a register when that is set which
// the register has to have at the end.
func (a *allocation) blocks(n, r, at int) bool {
	m := a.told[r]
	last := a.uses[n][len(a.uses[n])-1]
	return m != none && at <= a.place[m] && a.place[m] < last
}

// victim returns the register with the const that is needed last, among those that
// the operation at a position does not need, or none.
func (a *allocation) victim(at, from int) int {
	best, latest := none, at
	for r := range a.regs {
		n := a.held[r]
		if next := a.next(n, from); a.isConst(n) && next > latest {
			best, latest = r, next
		}
	}
	return best
}

// vacate frees the register that has to have the operation at a position in the end,
// if its value is needed only at the end after that, and the register that has to
// have this value is free already.
func (a *allocation) vacate(n, at int) {
	for r, m := range a.told[:a.regs] {
		if m != n || a.isFree(r, at+1) || a.next(a.held[r], at+1) < len(a.order) {
			continue
		}
		for to, m := range a.told[:a.regs] {
			if m == a.held[r] && a.isFree(to, at) {
				a.perform(move(to, r), m)
				a.held[r] = none
				return
			}
		}
	}
}

// tell moves the values to the registers that have to have them at the end.
func (a *allocation) tell() bool {
	var from, to []int
	var consts []api.Ins
	for r, n := range a.told {
		switch {
		case n == none:
		case a.isConst(n) && a.held[r] != n:
			consts = append(consts, a.set(r, n))
		default:
			from, to = append(from, a.where(n)), append(to, r)
		}
	}
	moves, e := Moves(a.width, a.regs, from, to)
	a.ins = slices.Concat(a.ins, moves, consts)
	return e == api.OK
}
