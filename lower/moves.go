package lower

import (
	"slices"

	"saturate/api"
)

// Moves is specified in P52.3.
func Moves(w, regs int, from, to []int) ([]api.Ins, api.Errno) {
	if e := (target{width: w, regs: regs}).check(); e != api.OK {
		return nil, e
	}
	switch {
	case len(from) != len(to):
		return nil, api.ErrArg
	case lacks(regs, from):
		return nil, api.ErrReg
	}
	if e := checkSet(regs, to); e != api.OK {
		return nil, e
	}
	p := newPending(from, to)
	spare := unused(regs, from, to)
	var ins []api.Ins
	for {
		r, ok := p.next()
		switch {
		case r == none:
			return ins, api.OK
		case !ok && spare == none:
			return nil, api.ErrReg
		case !ok:
			// What the cycle needs of this register is read from the spare one.
			ins = append(ins, move(spare, r))
			p.redirect(r, spare)
		}
		ins = append(ins, move(r, p[r]))
		p[r] = none
	}
}

func move(to, from int) api.Ins {
	return api.Ins{Op: api.MMov, Dst: to, A: from}
}

// unused returns the first register that is in neither of two lists, or none.
func unused(regs int, a, b []int) int {
	for r := range regs {
		if !slices.Contains(a, r) && !slices.Contains(b, r) {
			return r
		}
	}
	return none
}

// pending are the moves that still have to be made: by target, the source.
type pending [api.MaxRegs]int

func newPending(from, to []int) *pending {
	p := pending(nothing())
	for k, r := range to {
		if from[k] != r {
			p[r] = from[k]
		}
	}
	return &p
}

// next returns a target that no move reads, and true; or, if there are only cycles,
// any target, and false.
func (p *pending) next() (int, bool) {
	cyclic := none
	for r, source := range p {
		if source == none {
			continue
		}
		if !slices.Contains(p[:], r) {
			return r, true
		}
		cyclic = r
	}
	return cyclic, false
}

// redirect lets the moves read another register instead of one.
func (p *pending) redirect(from, to int) {
	for r, source := range p {
		if source == from {
			p[r] = to
		}
	}
}
