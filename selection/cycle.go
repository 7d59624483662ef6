package selection

import (
	"slices"

	"saturate/api"
	"saturate/egraph"
)

// reversed returns the classes that lead to each class.
func reversed(classes []int, next map[int][]int) map[int][]int {
	users := map[int][]int{}
	for _, class := range classes {
		for _, other := range next[class] {
			users[other] = append(users[other], class)
		}
	}
	return users
}

// walk returns the classes to which a class leads and that were not seen before,
// each after those that were met from it on.
func walk(class int, next map[int][]int, seen map[int]bool) []int {
	var l []int
	var visit func(class int)
	visit = func(class int) {
		if seen[class] {
			return
		}
		seen[class] = true
		for _, other := range next[class] {
			visit(other)
		}
		l = append(l, class)
	}
	visit(class)
	return l
}

// circular returns the reached classes that lead back to themselves. They are those
// of the strongly connected components that contain a link, which are found by
// walking against the links, beginning with the classes that a walk along them left
// last.
func (p part) circular() map[int]bool {
	seen := map[int]bool{}
	var left []int
	for _, class := range p.classes {
		left = append(left, walk(class, p.next, seen)...)
	}
	users := reversed(p.classes, p.next)
	clear(seen)
	found := map[int]bool{}
	for _, class := range slices.Backward(left) {
		component := walk(class, users, seen)
		if len(component) > 1 || slices.Contains(p.next[class], class) {
			for _, member := range component {
				found[member] = true
			}
		}
	}
	return found
}

// web has links between classes, as far as they can belong to cycles.
type web struct {
	next, users map[int][]int
	ins, outs   map[int]int  // by class, the numbers of its links from and to classes that were not dropped
	dropped     map[int]bool // by class
}

// web returns the links between the reached classes that lead back to themselves.
func (p part) web() *web {
	circular := p.circular()
	w := &web{next: map[int][]int{}, ins: map[int]int{}, outs: map[int]int{}, dropped: map[int]bool{}}
	for _, class := range p.classes {
		w.dropped[class] = !circular[class]
		for _, other := range p.next[class] {
			if circular[class] && circular[other] {
				w.next[class] = append(w.next[class], other)
				w.outs[class]++
				w.ins[other]++
			}
		}
	}
	w.users = reversed(p.classes, w.next)
	return w
}

// drop removes a class, and then those that belong to no cycle any more because no
// links lead to them or from them.
func (w *web) drop(class int) {
	waiting := []int{class}
	for len(waiting) > 0 {
		last := len(waiting) - 1
		class := waiting[last]
		waiting = waiting[:last]
		if w.dropped[class] {
			continue
		}
		w.dropped[class] = true
		for _, other := range w.next[class] {
			w.ins[other]--
			if w.ins[other] == 0 {
				waiting = append(waiting, other)
			}
		}
		for _, user := range w.users[class] {
			w.outs[user]--
			if w.outs[user] == 0 {
				waiting = append(waiting, user)
			}
		}
	}
}

// shortest returns the lexicographically least one of the shortest cycles from a
// class on, if they have less than the given number of classes.
func (w *web) shortest(class, bound int) []int {
	distances := map[int]int{class: 0} // how far it is from a class to the given one
	layer := []int{class}              // the classes with one distance
	for length := 1; length < bound && len(layer) > 0; length++ {
		var farther []int
		for _, other := range layer {
			for _, user := range w.users[other] {
				if user == class {
					return w.trace(class, length, distances)
				}
				if _, met := distances[user]; !met && !w.dropped[user] {
					distances[user] = length
					farther = append(farther, user)
				}
			}
		}
		layer = farther
	}
	return nil
}

// trace returns the lexicographically least cycle from a class on that has a length.
func (w *web) trace(class, length int, distances map[int]int) []int {
	cycle := []int{class}
	for rest := length - 1; rest > 0; rest-- {
		l := w.next[cycle[len(cycle)-1]]
		at := slices.IndexFunc(l, func(other int) bool { return distances[other] == rest })
		cycle = append(cycle, l[at])
	}
	return cycle
}

// Cycle is specified in P40.2.
func Cycle(g *egraph.Graph, roots []int, l []api.Choice) []int {
	p := reach(g, roots, l)
	w := p.web()
	var best []int
	bound := len(p.classes) + 1
	for _, class := range p.classes {
		if w.dropped[class] {
			continue
		}
		// The lesser classes are dropped, so that this one is the least of a cycle.
		if cycle := w.shortest(class, bound); len(cycle) > 0 {
			best, bound = cycle, len(cycle)
		}
		w.drop(class)
	}
	return best
}
