package machine

import (
	"saturate/api"
	"saturate/represent"
)

// execution executes a program on an e-graph.
type execution struct {
	plan
	*Reader
	lookups map[int]int // by instruction, the class of its Term, as far as it was needed; -1 if it has none
	values  []uint64    // of the registers
	found   *collection
}

// execute returns the first matches of a program, which is valid but for its limits.
func (r *Reader) execute(p api.MProg, most int) []api.Match {
	if most <= 0 {
		return nil
	}
	x := &execution{
		plan:    newPlan(p),
		Reader:  r,
		lookups: map[int]int{},
		values:  make([]uint64, registers(p)),
		found:   &collection{most: min(most, api.MaxMatches)},
	}
	x.run(0)
	var matches []api.Match
	for _, key := range x.found.first() {
		matches = append(matches, x.match(key))
	}
	return matches
}

// run executes the program from an instruction on. It returns an instruction: other
// choices from that one on would find nothing else.
func (x *execution) run(at int) int {
	cut := x.cuts[at]
	for at < len(x.prog.Ins) && !isChoice(x.prog.Ins[at]) {
		if !x.passes(at) {
			return cut
		}
		at++
		cut = min(cut, x.cuts[at])
	}
	if at == len(x.prog.Ins) {
		x.found.add(x.key())
		return cut
	}
	for range x.choices(x.prog.Ins[at]) {
		if x.isLate(at) {
			continue
		}
		later := x.run(at + 1)
		cut = min(cut, later)
		if later <= at {
			break
		}
	}
	return cut
}

// isLate reports whether all matches with the values that are set after an
// instruction come after those that count.
func (x *execution) isLate(at int) bool {
	if x.found.bound == nil {
		return false
	}
	for k, reg := range x.outs[:x.settled[at]] {
		if val, last := x.values[reg], x.found.bound[k]; val != last {
			return val > last
		}
	}
	return false
}

// choices sets the registers of an instruction in each possible way, and yields
// each time.
func (x *execution) choices(i api.MInstr) func(yield func() bool) {
	first, _ := targets(x.prog, i)
	return func(yield func() bool) {
		switch i.Kind {
		case api.MScan:
			for _, class := range x.classes {
				x.values[first] = uint64(class)
				if !yield() {
					return
				}
			}
		case api.MBind:
			for _, n := range x.nodesOf(x.class(i.A)) {
				if !sameOperator(n, i.Node) {
					continue
				}
				for k, arg := range n.Args {
					x.values[first+k] = uint64(arg)
				}
				if !yield() {
					return
				}
			}
		case api.MNum:
			for _, n := range x.nodesOf(x.class(i.A)) {
				x.values[first] = n.Val
				if n.Op == api.OpConst && !yield() {
					return
				}
			}
		}
	}
}

// sameOperator reports whether two nodes differ in their Args alone.
func sameOperator(a, b api.Node) bool {
	return a.Op == b.Op && a.Width == b.Width && a.Val == b.Val && a.Name == b.Name
}

// passes reports whether execution continues after an instruction that sets no
// register.
func (x *execution) passes(at int) bool {
	i := x.prog.Ins[at]
	class := x.class(i.A)
	switch i.Kind {
	case api.MSame:
		return class == x.class(i.B)
	case api.MLookup:
		return class == x.lookup(at)
	}
	return x.graph.Width(class) == i.B
}

// class returns the class in a register.
func (x *execution) class(reg int) int {
	return int(x.values[reg])
}

// lookup returns the class of the Term of an instruction, or -1.
func (x *execution) lookup(at int) int {
	class, ok := x.lookups[at]
	if !ok {
		class, ok = represent.Find(x.graph, x.prog.Ins[at].Term)
		if !ok {
			class = -1
		}
		x.lookups[at] = class
	}
	return class
}

// key returns the values of the registers that tell a match.
func (x *execution) key() []uint64 {
	key := make([]uint64, len(x.outs))
	for k, reg := range x.outs {
		key[k] = x.values[reg]
	}
	return key
}

// match returns the match that a key tells.
func (x *execution) match(key []uint64) api.Match {
	var m api.Match
	roots, holes := len(x.prog.Roots), len(x.prog.Holes)
	for _, class := range key[:roots] {
		m.Roots = append(m.Roots, int(class))
	}
	for k, s := range x.prog.Holes {
		m.Holes = append(m.Holes, api.Pair{Name: s.Name, Id: int(key[roots+k])})
	}
	for k, s := range x.prog.Nums {
		m.Nums = append(m.Nums, api.Bind{Name: s.Name, Val: key[roots+holes+k]})
	}
	return m
}
