package learned

import (
	"slices"

	"saturate/api"
	"saturate/isa"
)

// Canon is specified in P55.1.
func Canon(c api.Code) (api.Code, []int, api.Errno) {
	if _, e := isa.Check(c); e != api.OK {
		return api.Code{}, nil, e
	}
	old := occurring(c)
	if len(old) == 0 {
		old = []int{0}
	}
	name := func(r int) int { return slices.Index(old, r) }
	return rename(c, name, len(old)), old, api.OK
}

// occurring returns the registers of a program in the order of their first occurrence.
func occurring(c api.Code) []int {
	var all []int
	for _, i := range c.Ins {
		all = append(all, isa.Uses(i)...)
		if r, ok := isa.Def(i); ok {
			all = append(all, r)
		}
	}
	all = append(all, c.Out...)
	var l []int
	for _, r := range all {
		if !slices.Contains(l, r) {
			l = append(l, r)
		}
	}
	return l
}

// rename returns a program with new names for the registers that occur.
func rename(c api.Code, name func(r int) int, regs int) api.Code {
	c = isa.Copy(c)
	c.Regs = regs
	for k := range c.Ins {
		i := &c.Ins[k]
		for _, source := range []*int{&i.A, &i.B, &i.C}[:isa.Sources(i.Op)] {
			*source = name(*source)
		}
		if r, ok := isa.Def(*i); ok {
			i.Dst = name(r)
		}
	}
	for k, r := range c.Out {
		c.Out[k] = name(r)
	}
	return c
}

// Rename is specified in P55.1.
func Rename(c api.Code, to []int, regs int) (api.Code, api.Errno) {
	if _, e := isa.Check(c); e != api.OK {
		return api.Code{}, e
	}
	if regs < 1 || regs > api.MaxRegs || len(to) < c.Regs {
		return api.Code{}, api.ErrReg
	}
	var taken [api.MaxRegs]int // how often
	for _, r := range to[:c.Regs] {
		if r < 0 || r >= regs {
			return api.Code{}, api.ErrReg
		}
		taken[r]++
	}
	if slices.Max(taken[:]) > 1 {
		return api.Code{}, api.ErrDup
	}
	return rename(c, func(r int) int { return to[r] }, regs), api.OK
}
