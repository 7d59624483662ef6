package represent

import (
	"math/bits"

	"saturate/api"
	"saturate/egraph"
)

// Count is specified in P19.4.
func Count(g *egraph.Graph, id, size int) (int64, api.Errno) {
	if e := check(g, id); e != api.OK {
		return 0, e
	}
	t := &tally{g, map[int]series{}}
	count := t.terms(g.Find(id))
	sum := int64(0)
	for size := range min(size, maxCounted) {
		sum = plus(sum, count(size+1))
	}
	return sum, api.OK
}

// series returns the number of terms of a size, or of lists of terms whose sizes
// sum up to it.
type series func(size int) int64

// tally counts the terms of classes.
type tally struct {
	graph   *egraph.Graph
	classes map[int]series
}

// terms returns the series of the terms of a class.
func (t *tally) terms(class int) series {
	known, ok := t.classes[class]
	if ok {
		return known
	}
	var nodes []series // made later, because a class can be an operand of its own nodes
	s := remember(func(size int) int64 {
		if nodes == nil {
			for _, n := range t.graph.Nodes(class) {
				nodes = append(nodes, t.lists(n.Args))
			}
		}
		sum := int64(0)
		for _, count := range nodes {
			sum = plus(sum, count(size-1))
		}
		return sum
	})
	t.classes[class] = s
	return s
}

// lists returns the series of the lists of terms of classes, one of each.
func (t *tally) lists(classes []int) series {
	if len(classes) == 0 {
		return func(size int) int64 {
			if size == 0 {
				return 1
			}
			return 0
		}
	}
	first := t.terms(classes[0])
	if len(classes) == 1 {
		return first
	}
	rest := t.lists(classes[1:])
	if len(classes) > 2 {
		rest = remember(rest)
	}
	return func(size int) int64 {
		sum := int64(0)
		for k := 1; k < size; k++ {
			sum = plus(sum, times(first(k), rest(size-k)))
		}
		return sum
	}
}

// remember returns the same series for sizes up to maxCounted, where it is computed
// once for each. Nothing has a size below 1.
func remember(s series) series {
	var known [maxCounted + 1]bool
	var counts [maxCounted + 1]int64
	return func(size int) int64 {
		if size < 1 {
			return 0
		}
		if !known[size] {
			counts[size] = s(size)
			known[size] = true
		}
		return counts[size]
	}
}

// plus returns the sum of two numbers from 0 to Infinite, at most Infinite.
func plus(a, b int64) int64 {
	return min(a, api.Infinite-b) + b
}

// times returns the product of two numbers from 0 to Infinite, at most Infinite.
func times(a, b int64) int64 {
	high, low := bits.Mul64(uint64(a), uint64(b))
	if high > 0 || low > api.Infinite {
		return api.Infinite
	}
	return int64(low)
}
