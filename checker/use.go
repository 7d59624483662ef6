package checker

import (
	"saturate/api"
	"saturate/facts"
	"saturate/guard"
	"saturate/rule"
	"saturate/subst"
	"saturate/term"
)

// instance is a rule for a substitution.
type instance struct {
	left     api.Term // the instance of the first Pattern
	premises []premise
}

// premise is what a use of a rule requires: an equation, or a fact for which a guard
// fits.
type premise struct {
	concl api.Concl
	guard api.Guard
}

// filler fills patterns one after the other and keeps the first error.
type filler struct {
	subs   []api.Sub
	failed api.Errno
}

func (f *filler) fill(p api.Term) api.Term {
	if f.failed != api.OK {
		return api.Term{}
	}
	t, e := subst.Fill(p, f.subs)
	f.failed = e
	return t
}

// instantiate returns the instance of a rule.
func instantiate(r api.Rule, subs []api.Sub) (instance, api.Errno) {
	if e := rule.Check(r); e != api.OK {
		return instance{}, e
	}
	if rule.Generic(r) {
		return instance{}, api.ErrWidth
	}
	f := &filler{subs: subs}
	i := instance{}
	for k, a := range r.Left {
		t := f.fill(a.Pattern)
		if k == 0 {
			i.left = t
		}
		if a.Root != "" {
			root := f.fill(api.Term{Op: api.OpHole, Width: a.Pattern.Width, Name: a.Root})
			i.premises = append(i.premises, premise{concl: equation(root, t)})
		}
	}
	for _, c := range r.Guards {
		if c.Kind != api.GuardPred {
			i.premises = append(i.premises, f.premise(c))
		}
	}
	if f.failed != api.OK {
		return instance{}, f.failed
	}
	return i, api.OK
}

// premise returns the premise of a guard of another kind than GuardPred.
func (f *filler) premise(c api.Guard) premise {
	a := f.fill(c.A)
	if c.Kind == api.GuardEqual {
		return premise{concl: equation(a, f.fill(c.B))}
	}
	return premise{fact(a, facts.Top(a.Width)), c}
}

// Premises is specified in P35.2.
func Premises(r api.Rule, subs []api.Sub) ([]api.Concl, api.Errno) {
	i, e := instantiate(r, subs)
	var l []api.Concl
	for _, p := range i.premises {
		l = append(l, p.concl)
	}
	return l, e
}

// use returns what a StepRule shows, and whether its conditions hold.
func (b basis) use(s api.Step, refs []api.Concl) (api.Concl, bool) {
	if s.Rule < 0 || s.Rule >= len(b.rules) {
		return api.Concl{}, false
	}
	r := b.rules[s.Rule]
	i, e := instantiate(r, s.Subs)
	if e != api.OK || !i.permits(r, valuesOf(r, s.Subs), refs) {
		return api.Concl{}, false
	}
	right, e := subst.Fill(r.Right, s.Subs)
	return equation(i.left, right), e == api.OK
}

// valuesOf returns the values that a substitution gives to the nums of a rule.
func valuesOf(r api.Rule, subs []api.Sub) []api.Bind {
	var nums []api.Bind
	for _, v := range rule.Nums(r) {
		t, _ := subst.Look(subs, v.Name)
		nums = append(nums, api.Bind{Name: v.Name, Val: t.Val})
	}
	return nums
}

// permits reports whether the guards with a value hold and refs show the premises.
func (i instance) permits(r api.Rule, nums []api.Bind, refs []api.Concl) bool {
	for _, c := range r.Guards {
		if c.Kind != api.GuardPred {
			continue
		}
		if val, ok := guard.Value(c.A, nums); !ok || val != 1 {
			return false
		}
	}
	if len(refs) != len(i.premises) {
		return false
	}
	for k, p := range i.premises {
		if !p.shownBy(refs[k], nums) {
			return false
		}
	}
	return true
}

// shownBy reports whether a conclusion shows a premise.
func (p premise) shownBy(c api.Concl, nums []api.Bind) bool {
	if !p.concl.IsFact {
		return whole(c).same(whole(p.concl))
	}
	return c.IsFact && term.Same(c.A, p.concl.A) && guard.Fits(p.guard, c.Facts, nums)
}
