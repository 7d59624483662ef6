package machine

import (
	"saturate/api"
	"saturate/egraph"
	"saturate/program"
)

// Reader finds matches in an e-graph that does not change in the meantime. It reads
// the nodes of each class only once for all of them.
type Reader struct {
	graph   *egraph.Graph
	classes []int
	nodes   map[int][]api.Node // by class, as far as they were needed
}

// NewReader returns a Reader of an e-graph.
func NewReader(g *egraph.Graph) *Reader {
	return &Reader{g, g.Classes(), map[int][]api.Node{}}
}

// Find returns what the function Find returns for the e-graph.
func (r *Reader) Find(atoms []api.Atom, most int) ([]api.Match, api.Errno) {
	if r == nil {
		return nil, api.ErrNil
	}
	if e := check(r.graph); e != api.OK {
		return nil, e
	}
	// The matches of the atoms exist also if their program exceeds a limit.
	p, e := program.Plan(atoms)
	if e != api.OK {
		return nil, e
	}
	return r.execute(p, most), api.OK
}

// nodesOf returns the nodes of a class.
func (r *Reader) nodesOf(class int) []api.Node {
	l, ok := r.nodes[class]
	if !ok {
		l = r.graph.Nodes(class)
		r.nodes[class] = l
	}
	return l
}
