package rule

import (
	"saturate/api"
	"saturate/exhaust"
	"saturate/guard"
	"saturate/pattern"
)

// maxWidth is the greatest width at which generic rules are verified.
const maxWidth = 8

// Equation is specified in P28.4.
func Equation(r api.Rule) ([]api.Term, api.Term, api.Term) {
	if len(r.Left) == 0 {
		return nil, api.Term{}, api.Term{}
	}
	var hyps []api.Term
	suppose := func(c api.Guard) {
		hyps = append(hyps, pattern.Variables(guard.Term(c)))
	}
	for _, a := range r.Left {
		if a.Root != "" {
			root := api.Term{Op: api.OpHole, Width: a.Pattern.Width, Name: a.Root}
			suppose(api.Guard{Kind: api.GuardEqual, A: root, B: a.Pattern})
		}
	}
	for _, c := range r.Guards {
		suppose(c)
	}
	return hyps, pattern.Variables(r.Left[0].Pattern), pattern.Variables(r.Right)
}

// Sound is specified in P28.4.
func Sound(r api.Rule) (bool, []api.Bind, api.Errno) {
	if e := Check(r); e != api.OK {
		return false, nil, e
	}
	if Generic(r) {
		return false, nil, api.ErrWidth
	}
	hyps, left, right := Equation(r)
	return exhaust.Valid(hyps, left, right)
}

// SoundUpTo is specified in P28.4.
func SoundUpTo(r api.Rule, w int) (bool, int, api.Errno) {
	if e := Check(r); e != api.OK {
		return false, 1, e
	}
	last := 1 // a rule that is not generic is its own instance
	if Generic(r) {
		last = min(max(w, 1), maxWidth)
	}
	for v := 1; v <= last; v++ {
		instance, e := At(r, v)
		if e != api.OK {
			return false, v, e
		}
		if ok, _, e := Sound(instance); !ok {
			return false, v, e
		}
	}
	return true, 0, api.OK
}
