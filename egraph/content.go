package egraph

import (
	"slices"

	"saturate/api"
	"saturate/forest"
	"saturate/hashcons"
	"saturate/term"
	"saturate/unionfind"
)

// content is what an e-graph consists of. It embeds the union-find of the ids,
// and not Graph does so, because methods such as Make would change only that.
type content struct {
	*unionfind.Sets
	links    *forest.Forest
	nodes    []api.Node      // by id, as they were added
	ids      *hashcons.Table // the ids of these nodes
	widths   map[string]int  // of the vars, by name
	parents  [][]int         // by id, the nodes with this id among their Args
	joins    []join          // one for each link, in the same order
	absorbed [][]int         // by id, the losers of the joins that it won
	repaired int             // the joins from this one on are the work list: their losers wait for repair
	forms    *hashcons.Table // the keys and former keys, see enter
	entered  []api.Node      // the same, in the order in which they were entered
	marks    []state         // the recorded states
}

// join is a union of two classes, given by their least ids: the winner stays one.
// The loser wins no join any more, and so the ids of its class of that time are
// those that it has absorbed, directly or not, and itself.
type join struct {
	winner, loser int
}

func newContent() *content {
	return &content{
		Sets:   unionfind.New(),
		links:  forest.New(),
		ids:    hashcons.New(),
		widths: map[string]int{},
		forms:  hashcons.New(),
	}
}

func (c *content) has(id int) bool {
	return 0 <= id && id < len(c.nodes)
}

func (c *content) hasAll(ids []int) bool {
	return !slices.ContainsFunc(ids, func(id int) bool { return !c.has(id) })
}

// check returns the error of Add, except ErrFull.
func (c *content) check(n api.Node) api.Errno {
	if e := term.CheckForm(n.Op, n.Val, n.Name, len(n.Args)); e != api.OK {
		return e
	}
	if !c.hasAll(n.Args) {
		return api.ErrRange
	}
	var widths []int
	for _, arg := range n.Args {
		widths = append(widths, c.nodes[arg].Width)
	}
	if e := term.CheckWidth(n.Op, n.Width, n.Val, widths); e != api.OK {
		return e
	}
	// Only vars have a name.
	if width, ok := c.widths[n.Name]; ok && width != n.Width {
		return api.ErrBind
	}
	return api.OK
}

// add adds a node for which check returned no error.
func (c *content) add(n api.Node) (int, api.Errno) {
	if id, ok := c.ids.Get(n); ok {
		return id, api.OK
	}
	if len(c.nodes) >= api.MaxNodes {
		return 0, api.ErrFull
	}
	id := c.Make()
	n = hashcons.Copy(n)
	c.nodes = append(c.nodes, n)
	c.ids.Put(n, id)
	c.parents = append(c.parents, nil)
	c.absorbed = append(c.absorbed, nil)
	if n.Op == api.OpVar {
		c.widths[n.Name] = n.Width
	}
	for _, arg := range distinct(n.Args) {
		c.parents[arg] = append(c.parents[arg], id)
	}
	clean := !c.dirty()
	c.settle(id)
	if clean {
		// A new node has no parents, and so nothing waits for its join.
		c.repaired = len(c.joins)
	}
	return id, api.OK
}

// distinct returns the few elements of a list without repetitions, in their order.
func distinct(l []int) []int {
	var d []int
	for i, x := range l {
		if !slices.Contains(l[:i], x) {
			d = append(d, x)
		}
	}
	return d
}

func (c *content) dirty() bool {
	return c.repaired < len(c.joins)
}

// connect is Union for any reason.
func (c *content) connect(a, b, why int) (bool, api.Errno) {
	switch {
	case !c.has(a) || !c.has(b):
		return false, api.ErrRange
	case c.nodes[a].Width != c.nodes[b].Width:
		return false, api.ErrWidth
	case c.Same(a, b):
		return false, api.OK
	}
	c.join(a, b, why)
	return true, api.OK
}

// join joins the classes of two ids, which are different.
func (c *content) join(a, b, why int) {
	loser := max(c.Find(a), c.Find(b))
	winner, _ := c.Union(a, b)
	c.links.Link(a, b, why)
	c.joins = append(c.joins, join{winner, loser})
	c.absorbed[winner] = append(c.absorbed[winner], loser)
}

// form returns the canonical form of a node whose Args are ids.
func (c *content) form(n api.Node) api.Node {
	return hashcons.Canon(n, c.Find)
}

// settle makes the canonical form of a node its key. If it is that of another
// node already, both are joined.
func (c *content) settle(id int) {
	form := c.form(c.nodes[id])
	twin, ok := c.forms.Get(form)
	switch {
	case !ok:
		c.enter(form, id)
	case !c.Same(twin, id):
		c.join(twin, id, api.WhyCongruent)
	}
}

// enter puts the canonical form of a node into the table of forms. A form stays
// there when it is no key any more: it has an Arg then that has lost a join, and
// so it is no canonical form either, unless that join is undone.
func (c *content) enter(form api.Node, id int) {
	c.forms.Put(form, id)
	c.entered = append(c.entered, form)
}

// rebuild returns the number of joins.
func (c *content) rebuild() int {
	before := len(c.joins)
	for c.dirty() {
		j := c.joins[c.repaired]
		c.repaired++
		// If the winner has lost a join since, that one concerns all ids that this
		// one concerns, and it is still on the work list.
		if c.Find(j.winner) == j.winner {
			c.repair(j.loser)
		}
	}
	c.forget()
	return len(c.joins) - before
}

// repair settles the nodes whose canonical forms a join has changed.
func (c *content) repair(loser int) {
	for _, parent := range c.parents[loser] {
		c.settle(parent)
	}
	for _, id := range c.absorbed[loser] {
		c.repair(id)
	}
}

// forget removes the forms that are no keys any more, after a rebuild, if they
// are many and no recorded state needs them.
func (c *content) forget() {
	if len(c.marks) > 0 || len(c.entered) < 2*len(c.nodes)+1000 {
		return
	}
	former := c.forms
	c.forms, c.entered = hashcons.New(), nil
	for _, n := range c.nodes {
		form := c.form(n)
		if _, ok := c.forms.Get(form); !ok {
			id, _ := former.Get(form)
			c.enter(form, id)
		}
	}
}
