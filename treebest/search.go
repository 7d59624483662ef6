package treebest

import (
	"cmp"
	"container/heap"
	"slices"

	"saturate/api"
	"saturate/cost"
	"saturate/egraph"
)

// price is the tree cost of a term and its size, both at most Infinite. A cost below
// Infinite tells that the size is exact, since each node costs something.
type price struct {
	cost, size int64
}

func (p price) plus(q price) price {
	return price{cost.Add(p.cost, q.cost), cost.Add(p.size, q.size)}
}

func (p price) compare(q price) int {
	return cmp.Or(cmp.Compare(p.cost, q.cost), cmp.Compare(p.size, q.size))
}

// candidate is a node whose term may be the best one of its class.
type candidate struct {
	class   int
	node    api.Node
	missing int // the number of its Args whose best prices are not known yet
}

// search finds the roots of the best terms.
type search struct {
	costs      api.Costs
	candidates map[int][]*candidate // by class
	users      map[int][]*candidate // by class, those that have it among their Args, once for each time
	best       map[int]root         // by class, the best one so far
	list       workList
}

// bestRoots returns the roots of the best terms of all classes, by class.
func bestRoots(g *egraph.Graph, c api.Costs) map[int]root {
	s := &search{c, map[int][]*candidate{}, map[int][]*candidate{}, map[int]root{}, nil}
	for _, class := range g.Classes() {
		for _, n := range g.Nodes(class) {
			s.enter(&candidate{class, n, len(n.Args)})
		}
	}
	s.findPrices()
	s.settle()
	return s.best
}

func (s *search) enter(c *candidate) {
	s.candidates[c.class] = append(s.candidates[c.class], c)
	for _, arg := range c.node.Args {
		s.users[arg] = append(s.users[arg], c)
	}
	if c.missing == 0 {
		s.offer(c)
	}
}

// priceOf returns the price of the best term with a node as its root, if those of
// its operands are known.
func (s *search) priceOf(n api.Node) price {
	sum := price{cost.Node(s.costs, n.Op), 1}
	for _, arg := range n.Args {
		sum = sum.plus(s.best[arg].price)
	}
	return sum
}

// offer lets the class of a candidate wait with its price if it is the best so far.
func (s *search) offer(c *candidate) {
	p := s.priceOf(c.node)
	if known, ok := s.best[c.class]; !ok || p.compare(known.price) < 0 {
		s.best[c.class] = root{p, c.node}
		heap.Push(&s.list, waiting{p, c.class})
	}
}

// findPrices finds the best price of each class, and a node with this price whose
// Args had their best prices before, so that the nodes that are found lead to no
// cycle, even where prices are Infinite.
func (s *search) findPrices() {
	for len(s.list) > 0 {
		w := heap.Pop(&s.list).(waiting)
		if w.price != s.best[w.class].price {
			continue // it had a better one already
		}
		// No price that is still to come is better, since a term costs more than its operands.
		for _, user := range s.users[w.class] {
			user.missing--
			if user.missing == 0 {
				s.offer(user)
			}
		}
	}
}

// settle decides between the nodes with the best price of a class by the order of
// terms. In this order the smaller sizes come first, and so the places of operands
// are known when they are needed. Prices that are Infinite need no decision.
func (s *search) settle() {
	places := map[int]int{} // by class, those of its best term among all best terms
	inOrder := func(a, b api.Node) int {
		return cmp.Or(
			cmp.Compare(a.Op, b.Op),
			cmp.Compare(a.Width, b.Width),
			cmp.Compare(a.Val, b.Val),
			cmp.Compare(a.Name, b.Name),
			slices.CompareFunc(a.Args, b.Args, func(x, y int) int { return cmp.Compare(places[x], places[y]) }),
		)
	}
	for _, classes := range s.bySize() {
		for _, class := range classes {
			s.choose(class, inOrder)
		}
		slices.SortFunc(classes, func(a, b int) int { return inOrder(s.best[a].node, s.best[b].node) })
		for _, class := range classes {
			places[class] = len(places)
		}
	}
}

// bySize returns the classes whose best terms have a finite cost in groups of equal
// sizes, the smaller sizes first.
func (s *search) bySize() [][]int {
	groups := map[int64][]int{}
	var sizes []int64
	for class := range s.candidates {
		r := s.best[class]
		if r.cost == api.Infinite {
			continue
		}
		if len(groups[r.size]) == 0 {
			sizes = append(sizes, r.size)
		}
		groups[r.size] = append(groups[r.size], class)
	}
	slices.Sort(sizes)
	var l [][]int
	for _, size := range sizes {
		l = append(l, groups[size])
	}
	return l
}

// choose gives a class the first one in order of the nodes that have its best price.
func (s *search) choose(class int, inOrder func(a, b api.Node) int) {
	r := s.best[class]
	for _, c := range s.candidates[class] {
		if s.priceOf(c.node) == r.price && inOrder(c.node, r.node) < 0 {
			r.node = c.node
		}
	}
	s.best[class] = r
}

// waiting is a class that waits with the price of a term.
type waiting struct {
	price
	class int
}

// workList is ordered by package heap: the first class has the least price.
type workList []waiting

func (l workList) Len() int           { return len(l) }
func (l workList) Less(i, j int) bool { return l[i].compare(l[j].price) < 0 }
func (l workList) Swap(i, j int)      { l[i], l[j] = l[j], l[i] }

// Push is called by package heap, with classes that wait.
func (l *workList) Push(x any) {
	*l = append(*l, x.(waiting))
}

// Pop is called by package heap, after it has moved the first class to the end.
func (l *workList) Pop() any {
	last := len(*l) - 1
	x := (*l)[last]
	*l = (*l)[:last]
	return x
}
