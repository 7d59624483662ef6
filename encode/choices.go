package encode

import (
	"maps"
	"slices"

	"saturate/api"
	"saturate/egraph"
	"saturate/hashcons"
)

// Read is specified in P42.2.
func Read(vars []api.Choice, x []bool) []api.Choice {
	nodes := map[int]api.Node{} // by class, those that are selected
	for i, v := range vars {
		if _, chosen := nodes[v.Class]; !chosen && i < len(x) && x[i] {
			nodes[v.Class] = v.Node
		}
	}
	var l []api.Choice
	for _, class := range slices.Sorted(maps.Keys(nodes)) {
		l = append(l, api.Choice{Class: class, Node: hashcons.Copy(nodes[class])})
	}
	return l
}

// Write is specified in P42.2.
func Write(g *egraph.Graph, vars []api.Choice, l []api.Choice) []bool {
	if !g.Made() {
		return nil
	}
	nodes := map[int]api.Node{} // by class, those that are selected
	for _, c := range l {
		class := g.Find(c.Class)
		if _, chosen := nodes[class]; class >= 0 && !chosen {
			nodes[class] = c.Node
		}
	}
	var x []bool
	for _, v := range vars {
		n, chosen := nodes[g.Find(v.Class)]
		x = append(x, chosen && hashcons.Same(n, v.Node))
	}
	return x
}

// Cut is specified in P42.3.
func Cut(g *egraph.Graph, vars []api.Choice, l []api.Choice, cycle []int) (api.Row, bool) {
	if len(cycle) == 0 {
		return api.Row{}, false
	}
	counts := map[int]int{} // by class of the cycle, its selected variables
	for _, id := range cycle {
		counts[g.Find(id)] = 0
	}
	r := api.Row{Least: 1}
	for i, selected := range Write(g, vars, l) {
		class := g.Find(vars[i].Class)
		if n, within := counts[class]; within && selected {
			counts[class] = n + 1
			r.Coefs = append(r.Coefs, api.Coef{Var: i, By: -1})
			r.Least--
		}
	}
	for _, n := range counts {
		if n == 0 {
			return api.Row{}, false
		}
	}
	return r, true
}
