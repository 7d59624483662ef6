package eval

import (
	"saturate/api"
	"saturate/bits"
	"saturate/term"
)

// program is a term whose nodes are numbered in postorder, so that evaluating it
// for many assignments takes one pass over a slice for each of them.
type program struct {
	nodes  []node
	values []api.Word     // by node, of the last run
	inputs map[string]int // the position of each variable
}

// node refers to its operands by their numbers, and if it is a var, to its variable
// by its position.
type node struct {
	op    api.Op
	width int
	val   uint64
	args  [3]int
	input int
}

// compile prepares a valid term whose variables are in vars.
func compile(t api.Term, vars []api.Var) *program {
	p := &program{inputs: map[string]int{}}
	for i, v := range vars {
		p.inputs[v.Name] = i
	}
	p.add(t)
	return p
}

// add returns the number of the root of t.
func (p *program) add(t api.Term) int {
	n := node{op: t.Op, width: t.Width, val: t.Val, input: p.inputs[t.Name]}
	for i, arg := range t.Args {
		n.args[i] = p.add(arg)
	}
	p.nodes = append(p.nodes, n)
	p.values = append(p.values, api.Word{Width: t.Width})
	return len(p.nodes) - 1
}

// bind returns the values of the variables in an environment, and whether it has
// an entry for all of them.
func (p *program) bind(vars []api.Var, env []api.Bind) ([]uint64, bool) {
	inputs, bound := make([]uint64, len(vars)), make([]bool, len(vars))
	missing := len(vars)
	for _, b := range env {
		if i, ok := p.inputs[b.Name]; ok && !bound[i] {
			inputs[i], bound[i] = bits.Cut(vars[i].Width, b.Val), true
			missing--
		}
	}
	return inputs, missing == 0
}

// run returns the value of the term for reduced values of the variables.
func (p *program) run(inputs []uint64) uint64 {
	var x operands
	for i := range p.nodes {
		n := &p.nodes[i]
		if n.op == api.OpVar {
			p.values[i].Val = inputs[n.input]
			continue
		}
		for k, arg := range n.args {
			x[k] = p.values[arg]
		}
		p.values[i].Val = compute(n.op, n.width, n.val, &x)
	}
	return p.values[len(p.values)-1].Val
}

// Table is specified in P8.4.
func Table(t api.Term, vars []api.Var) ([]uint64, api.Errno) {
	total, e := checkTable(t, vars)
	if e != api.OK {
		return nil, e
	}
	p := compile(t, vars)
	inputs := make([]uint64, len(vars))
	values := make([]uint64, 1<<total)
	for row := range values {
		rest := uint64(row)
		for i, v := range vars {
			inputs[i] = bits.Cut(v.Width, rest)
			rest >>= v.Width
		}
		values[row] = p.run(inputs)
	}
	return values, api.OK
}

// checkTable returns the number of bits of an assignment.
func checkTable(t api.Term, vars []api.Var) (int, api.Errno) {
	if e := term.Check(t); e != api.OK {
		return 0, e
	}
	if !binds(vars, t) {
		return 0, api.ErrBind
	}
	total := 0
	for _, v := range vars {
		if v.Width < 1 || v.Width > api.MaxWidth {
			return 0, api.ErrWidth
		}
		total += v.Width
	}
	if total > api.MaxBits {
		return 0, api.ErrLong
	}
	return total, api.OK
}

// binds reports whether no name occurs twice in vars, and the variables of t
// are among them.
func binds(vars []api.Var, t api.Term) bool {
	widths := map[string]int{}
	for _, v := range vars {
		widths[v.Name] = v.Width
	}
	for _, v := range term.Vars(t) {
		if width, ok := widths[v.Name]; !ok || width != v.Width {
			return false
		}
	}
	return len(widths) == len(vars)
}
