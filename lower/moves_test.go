package lower_test

import (
	"math"
	"slices"
	"testing"

	"saturate/api"
	"saturate/exec"
	"saturate/lower"
)

// TestMovesErrors checks the errors of P52.3 and their order.
func TestMovesErrors(t *testing.T) {
	for i, c := range []struct {
		w, regs  int
		from, to []int
		want     api.Errno
	}{
		{0, 0, []int{0}, nil, api.ErrWidth}, {-1, 2, nil, nil, api.ErrWidth}, {65, 2, nil, nil, api.ErrWidth}, {math.MaxInt, 2, nil, nil, api.ErrWidth}, {8, 0, []int{0}, nil, api.ErrReg}, {8, 9, nil, nil, api.ErrReg}, {8, math.MinInt, nil, nil, api.ErrReg}, {1, 1, nil, nil, api.OK}, {64, 8, nil, nil, api.OK},
		{8, 2, []int{0}, nil, api.ErrArg}, {8, 2, nil, []int{0}, api.ErrArg}, {8, 2, []int{7, 8}, []int{0, 0, 9}, api.ErrArg},
		{8, 2, []int{2}, []int{0}, api.ErrReg}, {8, 2, []int{-1}, []int{0}, api.ErrReg}, {8, 2, []int{0}, []int{2}, api.ErrReg}, {8, 2, []int{0}, []int{-1}, api.ErrReg}, {8, 2, []int{math.MaxInt}, []int{0}, api.ErrReg}, {8, 2, []int{0}, []int{math.MinInt}, api.ErrReg}, {8, 2, []int{0, 0, 2}, []int{1, 1, 0}, api.ErrReg}, {8, 2, []int{0, 0, 0}, []int{1, 1, 2}, api.ErrReg}, {8, 8, []int{8}, []int{7}, api.ErrReg},
		{8, 2, []int{0, 1}, []int{1, 1}, api.ErrDup}, {8, 2, []int{0, 0}, []int{0, 0}, api.ErrDup}, {8, 3, []int{0, 1, 2, 0}, []int{1, 0, 2, 1}, api.ErrDup}, {8, 3, make([]int, 100), make([]int, 100), api.ErrDup},
		{8, 3, []int{1, 0, 2}, []int{0, 1, 2}, api.ErrReg}, {8, 3, []int{1, 0, 0}, []int{0, 1, 2}, api.ErrReg}, {8, 3, []int{1, 0}, []int{0, 1}, api.OK}, {8, 8, []int{1, 0, 3, 2, 5, 4, 7}, []int{0, 1, 2, 3, 4, 5, 6}, api.ErrReg}, {8, 8, []int{1, 0, 3, 2, 5, 4, 6}, []int{0, 1, 2, 3, 4, 5, 6}, api.OK},
	} {
		l, e := lower.Moves(c.w, c.regs, c.from, c.to)
		if e != c.want || e != api.OK && len(l) != 0 {
			t.Errorf("case %d: %v, %d, not %d", i, l, e, c.want)
		}
	}
}

// hasCycle reports whether moves contain a cycle of several registers.
func hasCycle(from, to []int) bool {
	for _, first := range to {
		r := first
		for range to {
			at := slices.Index(to, r)
			if at < 0 || from[at] == r {
				break
			}
			r = from[at]
			if r == first {
				return true
			}
		}
	}
	return false
}

// checkMoves checks Moves for valid arguments.
func checkMoves(t *testing.T, regs int, from, to []int) {
	t.Helper()
	l, e := lower.Moves(8, regs, from, to)
	all := append(slices.Clone(from), to...)
	spare := slices.ContainsFunc([]int{0, 1, 2, 3, 4, 5, 6, 7}[:regs], func(r int) bool { return !slices.Contains(all, r) })
	if hasCycle(from, to) && !spare {
		if e != api.ErrReg || len(l) != 0 {
			t.Fatalf("%d registers, from %v to %v: %v, %d", regs, from, to, l, e)
		}
		return
	}
	before := []uint64{10, 11, 12, 13, 14, 15, 16, 17}[:regs]
	after, _, f := exec.Run(api.Code{Width: 8, Regs: regs, Ins: l}, before)
	if e != api.OK || f != api.OK {
		t.Fatalf("%d registers, from %v to %v: %v, %d, %d", regs, from, to, l, e, f)
	}
	changed := 0
	for r, val := range after {
		if at := slices.Index(to, r); at >= 0 && val != before[from[at]] || at < 0 && slices.Contains(from, r) && val != before[r] {
			t.Fatalf("%d registers, from %v to %v: %v", regs, from, to, l)
		}
		if !slices.Contains(all, r) && val != before[r] {
			changed++
		}
	}
	isMove := func(i api.Ins) bool { return i.Op == api.MMov && i.Dst != i.A && i.B == 0 && i.C == 0 && i.Imm == 0 }
	if changed > 1 || 2*len(l) > 3*len(to) || slices.ContainsFunc(l, func(i api.Ins) bool { return !isMove(i) }) {
		t.Fatalf("%d registers, from %v to %v: %v", regs, from, to, l)
	}
}

// TestMoves checks P52.3 for all moves between up to four registers, and for more with five.
func TestMoves(t *testing.T) {
	for regs := 1; regs <= 5; regs++ {
		var visit func(from, to []int)
		visit = func(from, to []int) {
			checkMoves(t, regs, from, to)
			for source := range regs {
				for target := range regs {
					if !slices.Contains(to, target) && (regs < 5 || len(to) < 4 && (len(to) == 0 || target > to[len(to)-1])) {
						visit(append(slices.Clone(from), source), append(slices.Clone(to), target))
					}
				}
			}
		}
		visit(nil, nil)
	}
}
