package machine

import (
	"slices"

	"saturate/api"
	"saturate/egraph"
	"saturate/opinfo"
	"saturate/represent"
)

// execution executes a program on an e-graph.
type execution struct {
	graph   *egraph.Graph
	classes []int
	nodes   map[int][]api.Node // by class, as far as they were needed
	lookups map[int]int        // by instruction, the class of its Term, likewise; -1 if it has none
	prog    api.MProg
	values  []uint64 // of the class registers, and then of the number registers
	outs    []int    // the registers that tell a match, the most significant one first
	settled []int    // by instruction, how many of the first outs are set after it
	found   *collection
}

// execute returns the first matches of a program, which is valid but for its limits.
func execute(g *egraph.Graph, p api.MProg, most int) []api.Match {
	if most <= 0 {
		return nil
	}
	x := &execution{
		graph:   g,
		classes: g.Classes(),
		nodes:   map[int][]api.Node{},
		lookups: map[int]int{},
		prog:    p,
		values:  make([]uint64, p.Regs+api.MaxHoles),
		found:   &collection{most: min(most, api.MaxMatches)},
	}
	x.plan()
	x.run(0)
	var matches []api.Match
	for _, key := range x.found.first() {
		matches = append(matches, x.match(key))
	}
	return matches
}

// plan finds out which registers tell a match, and when they are set.
func (x *execution) plan() {
	x.outs = slices.Clone(x.prog.Roots)
	for _, s := range x.prog.Holes {
		x.outs = append(x.outs, s.Reg)
	}
	for _, s := range x.prog.Nums {
		x.outs = append(x.outs, x.prog.Regs+s.Reg)
	}
	set := make([]bool, len(x.values))
	settled := 0
	for _, i := range x.prog.Ins {
		first, n := x.targets(i)
		for k := range n {
			set[first+k] = true
		}
		for settled < len(x.outs) && set[x.outs[settled]] {
			settled++
		}
		x.settled = append(x.settled, settled)
	}
}

// targets returns the first one of the registers that an instruction sets, and
// their number.
func (x *execution) targets(i api.MInstr) (int, int) {
	switch i.Kind {
	case api.MScan:
		return i.A, 1
	case api.MBind:
		return i.B, opinfo.Arity(i.Node.Op)
	case api.MNum:
		return x.prog.Regs + i.B, 1
	}
	return 0, 0
}

// run executes the program from an instruction on.
func (x *execution) run(at int) {
	for ; at < len(x.prog.Ins); at++ {
		switch i := x.prog.Ins[at]; i.Kind {
		case api.MScan, api.MBind, api.MNum:
			x.choose(i, func() {
				if !x.isLate(at) {
					x.run(at + 1)
				}
			})
			return
		default:
			if !x.passes(at) {
				return
			}
		}
	}
	x.found.add(x.key())
}

// isLate reports whether all matches with the values that are set after an
// instruction come after those that count.
func (x *execution) isLate(at int) bool {
	if x.found.bound == nil {
		return false
	}
	for k, reg := range x.outs[:x.settled[at]] {
		if val, last := x.values[reg], x.found.bound[k]; val != last {
			return val > last
		}
	}
	return false
}

// choose sets the registers of an instruction in each possible way, and continues
// each time.
func (x *execution) choose(i api.MInstr, proceed func()) {
	first, _ := x.targets(i)
	switch i.Kind {
	case api.MScan:
		for _, class := range x.classes {
			x.values[first] = uint64(class)
			proceed()
		}
	case api.MBind:
		for _, n := range x.nodesOf(i.A) {
			if n.Op == i.Node.Op && n.Width == i.Node.Width && n.Val == i.Node.Val && n.Name == i.Node.Name {
				for k, arg := range n.Args {
					x.values[first+k] = uint64(arg)
				}
				proceed()
			}
		}
	case api.MNum:
		for _, n := range x.nodesOf(i.A) {
			if n.Op == api.OpConst {
				x.values[first] = n.Val
				proceed()
			}
		}
	}
}

// passes reports whether execution continues after an instruction that sets no
// register.
func (x *execution) passes(at int) bool {
	i := x.prog.Ins[at]
	class := x.class(i.A)
	switch i.Kind {
	case api.MSame:
		return class == x.class(i.B)
	case api.MLookup:
		return class == x.lookup(at)
	}
	return x.graph.Width(class) == i.B
}

// class returns the class in a register.
func (x *execution) class(reg int) int {
	return int(x.values[reg])
}

// nodesOf returns the nodes of the class in a register.
func (x *execution) nodesOf(reg int) []api.Node {
	class := x.class(reg)
	l, ok := x.nodes[class]
	if !ok {
		l = x.graph.Nodes(class)
		x.nodes[class] = l
	}
	return l
}

// lookup returns the class of the Term of an instruction, or -1.
func (x *execution) lookup(at int) int {
	class, ok := x.lookups[at]
	if !ok {
		class, ok = represent.Find(x.graph, x.prog.Ins[at].Term)
		if !ok {
			class = -1
		}
		x.lookups[at] = class
	}
	return class
}

// key returns the values of the registers that tell a match.
func (x *execution) key() []uint64 {
	key := make([]uint64, len(x.outs))
	for k, reg := range x.outs {
		key[k] = x.values[reg]
	}
	return key
}

// match returns the match that a key tells.
func (x *execution) match(key []uint64) api.Match {
	var m api.Match
	roots, holes := len(x.prog.Roots), len(x.prog.Holes)
	for _, class := range key[:roots] {
		m.Roots = append(m.Roots, int(class))
	}
	for k, s := range x.prog.Holes {
		m.Holes = append(m.Holes, api.Pair{Name: s.Name, Id: int(key[roots+k])})
	}
	for k, s := range x.prog.Nums {
		m.Nums = append(m.Nums, api.Bind{Name: s.Name, Val: key[roots+holes+k]})
	}
	return m
}

// collection collects keys, of which only the least different ones count.
type collection struct {
	most  int
	keys  [][]uint64
	bound []uint64 // the greatest key that counts, if there are enough of them
}

func (c *collection) add(key []uint64) {
	c.keys = append(c.keys, key)
	if len(c.keys) >= 2*c.most {
		c.tidy()
	}
}

// tidy removes the keys that do not count.
func (c *collection) tidy() {
	slices.SortFunc(c.keys, slices.Compare[[]uint64])
	c.keys = slices.CompactFunc(c.keys, slices.Equal[[]uint64])
	if len(c.keys) >= c.most {
		c.keys = c.keys[:c.most]
		c.bound = c.keys[c.most-1]
	}
}

// first returns the keys that count in increasing order.
func (c *collection) first() [][]uint64 {
	c.tidy()
	return c.keys
}
