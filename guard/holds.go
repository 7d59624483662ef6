package guard

import (
	"slices"

	"saturate/analysis"
	"saturate/api"
	"saturate/bits"
	"saturate/egraph"
	"saturate/eval"
	"saturate/facts"
)

// Value is specified in P27.3.
func Value(p api.Term, nums []api.Bind) (uint64, bool) {
	if p.Op == api.OpNum {
		val, ok := valueOf(nums, p.Name)
		if !ok || p.Width < 1 || p.Width > api.MaxWidth {
			return 0, false
		}
		return bits.Cut(p.Width, val), true
	}
	var args []api.Word
	for _, arg := range p.Args {
		val, ok := Value(arg, nums)
		if !ok {
			return 0, false
		}
		args = append(args, api.Word{Width: arg.Width, Val: val})
	}
	// For holes, vars and evals this is an error.
	val, e := eval.Apply(p.Op, p.Width, p.Val, args)
	return val, e == api.OK
}

// valueOf returns the value that counts for a name.
func valueOf(nums []api.Bind, name string) (uint64, bool) {
	at := slices.IndexFunc(nums, func(b api.Bind) bool { return b.Name == name })
	if at < 0 {
		return 0, false
	}
	return nums[at].Val, true
}

// Class is specified in P27.4.
func Class(g *egraph.Graph, p api.Term, m api.Match) (int, bool) {
	switch p.Op {
	case api.OpHole:
		return classOfHole(g, p, m.Holes)
	case api.OpNum:
		val, ok := valueOf(m.Nums, p.Name)
		if !ok {
			return 0, false
		}
		return g.Lookup(api.Node{Op: api.OpConst, Width: p.Width, Val: val})
	}
	n := api.Node{Op: p.Op, Width: p.Width, Val: p.Val, Name: p.Name}
	for _, arg := range p.Args {
		id, ok := Class(g, arg, m)
		if !ok {
			return 0, false
		}
		n.Args = append(n.Args, id)
	}
	return g.Lookup(n)
}

// classOfHole returns the class that a match gives to a hole, if it has its width.
func classOfHole(g *egraph.Graph, p api.Term, holes []api.Pair) (int, bool) {
	at := slices.IndexFunc(holes, func(h api.Pair) bool { return h.Name == p.Name })
	if at < 0 {
		return 0, false
	}
	class := g.Find(holes[at].Id)
	if class < 0 || g.Width(class) != p.Width {
		return 0, false
	}
	return class, true
}

// Holds is specified in P27.5.
func Holds(g *egraph.Graph, t *analysis.Table, c api.Guard, m api.Match) bool {
	if !g.Made() || g.Dirty() {
		return false
	}
	switch c.Kind {
	case api.GuardPred:
		val, ok := Value(c.A, m.Nums)
		return ok && val == 1
	case api.GuardEqual:
		a, first := Class(g, c.A, m)
		b, second := Class(g, c.B, m)
		return first && second && a == b
	}
	class, ok := Class(g, c.A, m)
	if !ok {
		return false
	}
	f, ok := t.Of(class)
	return ok && Fits(c, f, m.Nums)
}

// Fits is specified in P27.5.
func Fits(c api.Guard, f api.Facts, nums []api.Bind) bool {
	val, ok := Value(c.B, nums)
	if !ok || f.Width != c.A.Width {
		return false
	}
	if !facts.Valid(f) {
		f = facts.Top(f.Width)
	}
	switch c.Kind {
	case api.GuardZeros:
		return val&^f.Known.Zeros == 0
	case api.GuardBelow:
		return f.Range.Hi < val
	}
	return false
}
