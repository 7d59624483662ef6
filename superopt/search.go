package superopt

import (
	"iter"
	"slices"

	"saturate/api"
	"saturate/exec"
	"saturate/isa"
	"saturate/refine"
)

// Search is specified in P54.3.
func Search(c api.Code, s api.Space) (api.Code, int, api.Errno) {
	if _, e := isa.Check(c); e != api.OK {
		return api.Code{}, 0, e
	}
	if e := Check(s); e != api.OK {
		return api.Code{}, 0, e
	}
	if _, _, e := refine.States(c, c); e != api.OK {
		return api.Code{}, 0, e
	}
	var refuting [][]uint64 // states that have refuted a candidate
	for index, d := range newHunt(c, s).candidates() {
		if _, ok := refine.Test(c, d, refuting); !ok {
			continue
		}
		ok, state, e := refine.Check(c, d)
		switch {
		case ok:
			return d, index, api.OK
		case e == api.OK:
			refuting = append(refuting, state)
		}
	}
	if total := Total(c, s); total <= s.Fuel {
		return api.Code{}, total, api.ErrNone
	}
	return api.Code{}, s.Fuel, api.ErrFuel
}

// hunt looks for programs that can be the result of Search.
type hunt struct {
	code       api.Code
	cost       int64
	list       []api.Ins
	most, fuel int
	tests      []test
}

// test is a state for which a program does not trap, and its final values of Out.
type test struct {
	start, wanted []uint64
}

// mostTests is the number of states for which programs are tested before they are
// candidates.
const mostTests = 8

func newHunt(c api.Code, s api.Space) *hunt {
	h := &hunt{code: c, cost: isa.Cost(c), list: Instructions(c.Width, c.Regs, s), most: s.Most, fuel: s.Fuel}
	// In the first corners all registers are equal, and so the others exclude more.
	for _, start := range slices.Backward(refine.Corners(c.Width, c.Regs, mostTests, 1)) {
		if wanted, e := exec.Outs(c, start); e == api.OK {
			h.tests = append(h.tests, test{start, wanted})
		}
	}
	return h
}

// candidates yields programs with indices less than the fuel, in their order. It
// leaves out those that cost too much or fail a test, and those whose last
// instruction is dead, because the programs without it come before them.
func (h *hunt) candidates() iter.Seq2[int, api.Code] {
	return func(yield func(int, api.Code) bool) {
		var states [][]uint64
		for _, t := range h.tests {
			states = append(states, t.start)
		}
		index := 0
		for length := 0; length <= h.most && index < h.fuel; length++ {
			if !h.extend(nil, states, length, index, yield) {
				return
			}
			index += count(len(h.list), length)
		}
	}
}

// extend visits the programs with a beginning and a number of further instructions,
// of which the first one has the given index. The states are those before the last
// instruction of the beginning. It reports whether the iteration goes on.
func (h *hunt) extend(ins []api.Ins, states [][]uint64, further, index int, yield func(int, api.Code) bool) bool {
	// Every instruction of a space costs something.
	if isa.Cost(api.Code{Ins: ins})+int64(further) >= h.cost {
		return true
	}
	states, ok := h.after(ins, states, further)
	if !ok {
		return true
	}
	if further == 0 {
		return yield(index, with(h.code, ins))
	}
	each := count(len(h.list), further-1)
	for k, i := range h.list {
		first := index + k*each
		if first >= h.fuel {
			break
		}
		isDead := further == 1 && !slices.Contains(h.code.Out, i.Dst)
		if !isDead && !h.extend(append(ins, i), states, further-1, first, yield) {
			return false
		}
	}
	return true
}

// after returns the states after the last one of some instructions, if there are
// any. It returns false if it traps, or if further instructions cannot lead to the
// wanted values.
func (h *hunt) after(ins []api.Ins, states [][]uint64, further int) ([][]uint64, bool) {
	var next [][]uint64
	for k, t := range h.tests {
		state, e := states[k], api.OK
		if len(ins) > 0 {
			state, e = exec.Step(h.code.Width, ins[len(ins)-1], state)
		}
		if e != api.OK || h.wrong(state, t.wanted) > further {
			return nil, false
		}
		next = append(next, state)
	}
	return next, true
}

// wrong returns the number of registers of Out that do not have the wanted values.
func (h *hunt) wrong(state, wanted []uint64) int {
	n := 0
	for k, r := range h.code.Out {
		if state[r] != wanted[k] {
			n++
		}
	}
	return n
}
