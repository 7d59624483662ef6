package egraph

import (
	"saturate/api"
)

// state is a recorded state: how much there was of all that grows until it is
// undone, and how much of it was repaired.
type state struct {
	operations, nodes, joins, forms, repaired int
}

// record returns the number of the recorded state.
func (c *content) record() int {
	c.marks = append(c.marks, state{c.Mark(), len(c.nodes), len(c.joins), len(c.entered), c.repaired})
	return len(c.marks) - 1
}

// restore reports whether there is a recorded state with this number.
func (c *content) restore(number int) bool {
	if number < 0 || number >= len(c.marks) {
		return false
	}
	to := c.marks[number]
	c.marks = c.marks[:number]
	c.Undo(to.operations)
	c.links.Undo(to.joins)
	c.repaired = to.repaired
	for len(c.joins) > to.joins {
		c.undoJoin()
	}
	for len(c.nodes) > to.nodes {
		c.undoAdd()
	}
	for _, form := range c.entered[to.forms:] {
		c.forms.Del(form)
	}
	c.entered = c.entered[:to.forms]
	return true
}

func (c *content) undoJoin() {
	last := len(c.joins) - 1
	winner := c.joins[last].winner
	c.absorbed[winner] = withoutLast(c.absorbed[winner])
	c.joins = c.joins[:last]
}

// undoAdd removes the last node, which has no parents.
func (c *content) undoAdd() {
	last := len(c.nodes) - 1
	n := c.nodes[last]
	for _, arg := range distinct(n.Args) {
		c.parents[arg] = withoutLast(c.parents[arg])
	}
	if n.Op == api.OpVar {
		delete(c.widths, n.Name)
	}
	c.ids.Del(n)
	c.nodes = c.nodes[:last]
	c.parents = c.parents[:last]
	c.absorbed = c.absorbed[:last]
}

func withoutLast(l []int) []int {
	return l[:len(l)-1]
}
