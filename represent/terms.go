package represent

import (
	"slices"

	"saturate/api"
	"saturate/egraph"
	"saturate/term"
)

// The limits of sizes and numbers of terms.
const (
	maxCounted = 64
	maxListed  = 12
	maxTerms   = 1000
)

// check returns the error of Terms and Count.
func check(g *egraph.Graph, id int) api.Errno {
	switch {
	case !g.Made():
		return api.ErrNil
	case g.Dirty():
		return api.ErrDirty
	case g.Find(id) < 0:
		return api.ErrRange
	}
	return api.OK
}

// Terms is specified in P19.4.
func Terms(g *egraph.Graph, id, size, most int) ([]api.Term, api.Errno) {
	if e := check(g, id); e != api.OK {
		return nil, e
	}
	s := newSpace(g)
	class := g.Find(id)
	most = min(most, maxTerms)
	var found []api.Term
	for size := range min(size, maxListed) {
		for k := 0; len(found) < most; k++ {
			t, ok := s.term(class, size+1, k)
			if !ok {
				break
			}
			found = append(found, term.Copy(t))
		}
	}
	return found, api.OK
}

// space produces the terms that the classes of an e-graph represent. Different
// nodes (in canonical form) have different terms, and those of one node of a size
// are combined from terms of smaller sizes.
type space struct {
	graph    *egraph.Graph
	forms    map[int][]api.Node // by class, its nodes in canonical form
	progress map[level]*progress
}

// level stands for the terms of a class that have a size.
type level struct {
	class, size int
}

// progress consists of the terms of a level that are known already, in increasing
// order, and of the origins of the others, those with the greatest next terms first.
type progress struct {
	terms   []api.Term
	origins []*origin
}

// origin is a node whose terms are produced in increasing order: the next one is
// known already.
type origin struct {
	next api.Term
	more func() (api.Term, bool)
}

func newSpace(g *egraph.Graph) *space {
	return &space{g, map[int][]api.Node{}, map[level]*progress{}}
}

// nodes returns the nodes of a class in canonical form.
func (s *space) nodes(class int) []api.Node {
	l, ok := s.forms[class]
	if !ok {
		l = s.graph.Nodes(class)
		s.forms[class] = l
	}
	return l
}

// term returns the k-th term of a class that has the given size, in increasing
// order, and whether there is one. The caller must not change it.
func (s *space) term(class, size, k int) (api.Term, bool) {
	l := level{class, size}
	p, ok := s.progress[l]
	if !ok {
		p = s.begin(l)
		s.progress[l] = p
	}
	for k >= len(p.terms) {
		if !p.advance() {
			return api.Term{}, false
		}
	}
	return p.terms[k], true
}

// begin returns the progress of a level of which no term is known yet.
func (s *space) begin(l level) *progress {
	p := &progress{}
	for _, n := range s.nodes(l.class) {
		lists := s.lists(n.Args, l.size-1)
		more := func() (api.Term, bool) {
			args, ok := lists()
			return withOperands(n, args), ok
		}
		if next, ok := more(); ok {
			p.origins = append(p.origins, &origin{next, more})
		}
	}
	slices.SortFunc(p.origins, decreasing)
	return p
}

func decreasing(a, b *origin) int {
	return term.Compare(b.next, a.next)
}

// advance reports whether there is a further term.
func (p *progress) advance() bool {
	last := len(p.origins) - 1
	if last < 0 {
		return false
	}
	least := p.origins[last]
	p.origins = p.origins[:last]
	p.terms = append(p.terms, least.next)
	if next, ok := least.more(); ok {
		least.next = next
		at, _ := slices.BinarySearchFunc(p.origins, least, decreasing)
		p.origins = slices.Insert(p.origins, at, least)
	}
	return true
}

// lists returns a function that returns one by one, in increasing order, the lists
// of terms of the given classes, one of each, whose sizes sum up to total.
func (s *space) lists(classes []int, total int) func() ([]api.Term, bool) {
	if len(classes) == 0 {
		return once(total == 0)
	}
	first, others := classes[0], classes[1:]
	size, k := 1, 0 // of the first term
	if len(others) == 0 {
		size = max(size, total)
	}
	rest := s.lists(others, total-size)
	fruitful := false // if there is no list with this size, its other terms are not tried
	return func() ([]api.Term, bool) {
		for size+len(others) <= total {
			head, ok := s.term(first, size, k)
			if ok {
				if tail, ok := rest(); ok {
					fruitful = true
					return append([]api.Term{head}, tail...), true
				}
			}
			if ok && fruitful {
				k++
			} else {
				size, k, fruitful = size+1, 0, false
			}
			rest = s.lists(others, total-size)
		}
		return nil, false
	}
}

// once returns a function that returns the empty list once, if there is one.
func once(exists bool) func() ([]api.Term, bool) {
	return func() ([]api.Term, bool) {
		ok := exists
		exists = false
		return nil, ok
	}
}
