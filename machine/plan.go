package machine

import (
	"slices"

	"saturate/api"
	"saturate/opinfo"
)

// plan is a program with what has to be known to execute it. Its registers are those
// for classes, and then those for numbers.
type plan struct {
	prog    api.MProg
	outs    []int // the registers that tell a match, the most significant one first
	settled []int // by instruction, how many of the first outs are set after it
	cuts    []int // see cuts
}

func newPlan(p api.MProg) plan {
	l := outs(p)
	return plan{p, l, settled(p, l), cuts(p, l)}
}

// registers returns the number of registers.
func registers(p api.MProg) int {
	return p.Regs + api.MaxHoles
}

// outs returns the registers that tell a match.
func outs(p api.MProg) []int {
	l := slices.Clone(p.Roots)
	for _, s := range p.Holes {
		l = append(l, s.Reg)
	}
	for _, s := range p.Nums {
		l = append(l, p.Regs+s.Reg)
	}
	return l
}

// isChoice reports whether an instruction can set registers in several ways.
func isChoice(i api.MInstr) bool {
	return i.Kind == api.MScan || i.Kind == api.MBind || i.Kind == api.MNum
}

// targets returns the first one of the registers that an instruction sets, and
// their number.
func targets(p api.MProg, i api.MInstr) (int, int) {
	switch i.Kind {
	case api.MScan:
		return i.A, 1
	case api.MBind:
		return i.B, opinfo.Arity(i.Node.Op)
	case api.MNum:
		return p.Regs + i.B, 1
	}
	return 0, 0
}

// settled returns for each instruction how many of the first registers of a list are
// set after it.
func settled(p api.MProg, l []int) []int {
	set := make([]bool, registers(p))
	var counts []int
	n := 0
	for _, i := range p.Ins {
		first, count := targets(p, i)
		for r := range count {
			set[first+r] = true
		}
		for n < len(l) && set[l[n]] {
			n++
		}
		counts = append(counts, n)
	}
	return counts
}

// cuts returns for each instruction, and for the end, the first one of the
// instructions before it that set no registers which are read from there on or tell
// a match. When execution has come there once, other choices from that one on would
// only lead there again, with nothing that matters changed.
func cuts(p api.MProg, outs []int) []int {
	last := lastReads(p, outs)
	needed := func(k, at int) bool {
		first, count := targets(p, p.Ins[k])
		return count > 0 && slices.Max(last[first:first+count]) >= at
	}
	var l []int
	var before []int // the instructions before, except for some that are not needed any more
	for at := range len(p.Ins) + 1 {
		for len(before) > 0 && !needed(before[len(before)-1], at) {
			before = before[:len(before)-1]
		}
		cut := 0
		if len(before) > 0 {
			cut = before[len(before)-1] + 1
		}
		l = append(l, cut)
		before = append(before, at)
	}
	return l
}

// lastReads returns for each register the last instruction that reads it, the end if
// it tells a match, or -1.
func lastReads(p api.MProg, outs []int) []int {
	last := slices.Repeat([]int{-1}, registers(p))
	for at, i := range p.Ins {
		if i.Kind != api.MScan {
			last[i.A] = at
		}
		if i.Kind == api.MSame {
			last[i.B] = at
		}
	}
	for _, reg := range outs {
		last[reg] = len(p.Ins)
	}
	return last
}
