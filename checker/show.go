package checker

import (
	"saturate/api"
	"saturate/eval"
	"saturate/facts"
	"saturate/proof"
	"saturate/term"
)

// basis is what a proof is based on.
type basis struct {
	rules []api.Rule
	given []api.Concl
}

// show returns what a step shows if its Refs show refs, and whether its conditions
// hold. The result shares memory with the arguments.
func (b basis) show(s api.Step, refs []api.Concl) (api.Concl, bool) {
	if !hasTerms(s) || !hasCount(s, len(refs)) {
		return api.Concl{}, false
	}
	switch s.Kind {
	case api.StepRule:
		return b.use(s, refs)
	case api.StepGiven:
		return b.assume(s.Rule)
	}
	for at, ref := range refs {
		if ref.IsFact != refersToFact(s.Kind, at) {
			return api.Concl{}, false
		}
	}
	return derive(s, refs)
}

// hasTerms reports whether those terms of a step are valid that its kind uses.
func hasTerms(s api.Step) bool {
	switch s.Kind {
	case api.StepCong:
		if term.Check(s.B) != api.OK {
			return false
		}
		fallthrough
	case api.StepRefl, api.StepFold, api.StepTop, api.StepNode:
		return term.Check(s.A) == api.OK
	}
	return true
}

// hasCount reports whether a step with the terms that its kind needs can have a number
// of Refs. For StepRule the rule tells their number.
func hasCount(s api.Step, count int) bool {
	least, most := proof.Refs(s.Kind)
	if s.Kind == api.StepCong || s.Kind == api.StepNode {
		least, most = len(s.A.Args), len(s.A.Args)
	}
	return least <= count && count <= most
}

// refersToFact reports whether a Ref of a step has to show a fact, and not an equation.
func refersToFact(kind, at int) bool {
	switch kind {
	case api.StepNode, api.StepMeet, api.StepSingle:
		return true
	case api.StepMove:
		return at == 1
	}
	return false
}

// derive returns what a step shows without rules and given equations, and whether its
// conditions hold, if its terms and the number and kinds of refs are right.
func derive(s api.Step, refs []api.Concl) (api.Concl, bool) {
	switch s.Kind {
	case api.StepRefl:
		return equation(s.A, s.A), true
	case api.StepSym:
		return equation(refs[0].B, refs[0].A), true
	case api.StepTrans:
		return equation(refs[0].A, refs[1].B), term.Same(refs[0].B, refs[1].A)
	case api.StepCong:
		return equation(s.A, s.B), congruent(s.A, s.B, refs)
	case api.StepFold:
		val, e := eval.Eval(s.A, nil)
		return equation(s.A, term.Const(s.A.Width, val)), e == api.OK
	case api.StepTop:
		return fact(s.A, facts.Top(s.A.Width)), true
	case api.StepNode:
		return transfer(s.A, refs)
	case api.StepMeet:
		f, ok := facts.Meet(refs[0].Facts, refs[1].Facts)
		return fact(refs[0].A, f), ok && term.Same(refs[0].A, refs[1].A)
	case api.StepMove:
		return fact(refs[0].B, refs[1].Facts), term.Same(refs[0].A, refs[1].A)
	case api.StepSingle:
		val, ok := facts.Single(refs[0].Facts)
		return equation(refs[0].A, term.Const(refs[0].A.Width, val)), ok
	}
	return api.Concl{}, false
}

// congruent reports whether a and b are the same operator, and refs show that their
// operands are equal.
func congruent(a, b api.Term, refs []api.Concl) bool {
	if a.Op != b.Op || a.Width != b.Width || a.Val != b.Val || a.Name != b.Name {
		return false
	}
	// Operands of valid terms with the same operator are equally many.
	for k, ref := range refs {
		if !whole(ref).same(whole(equation(a.Args[k], b.Args[k]))) {
			return false
		}
	}
	return true
}

// transfer returns the facts of a term whose operands have those that refs show.
func transfer(a api.Term, refs []api.Concl) (api.Concl, bool) {
	var l []api.Facts
	for k, ref := range refs {
		if !term.Same(ref.A, a.Args[k]) {
			return api.Concl{}, false
		}
		l = append(l, ref.Facts)
	}
	f, e := facts.Apply(a.Op, a.Width, a.Val, l)
	return fact(a, f), e == api.OK
}

// assume returns the given equation with an index.
func (b basis) assume(index int) (api.Concl, bool) {
	if index < 0 || index >= len(b.given) {
		return api.Concl{}, false
	}
	c, ok := standsFor(b.given[index])
	return c, ok && !c.IsFact
}
