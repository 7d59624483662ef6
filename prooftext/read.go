package prooftext

import (
	"saturate/api"
	"saturate/digits"
	"saturate/proof"
	"saturate/sexpr"
	"saturate/termtext"
)

// Parse is specified in P36.2.
func Parse(s string) ([]api.Step, int, api.Errno) {
	l, at, e := sexpr.ParseAll(s)
	if e != api.OK {
		return nil, at, e
	}
	var p []api.Step
	for i, x := range l {
		s, e := read(x)
		if e != api.OK {
			return nil, i, e
		}
		p = append(p, s)
	}
	if at, e := proof.Check(p); e != api.OK {
		return nil, at, e
	}
	return p, 0, api.OK
}

// read returns the step with a line.
func read(e api.Sexp) (api.Step, api.Errno) {
	in := &reader{}
	s := in.step(e)
	switch {
	case in.malformed:
		return api.Step{}, api.ErrParse
	case in.failed != api.OK:
		return api.Step{}, in.failed
	}
	return s, api.OK
}

// reader reads the parts of a step. It goes on after errors, since a wrong form comes
// before the error of any term.
type reader struct {
	malformed bool
	failed    api.Errno // of the first term that has an error
}

// require notes that the form is wrong unless a condition holds, which it returns.
func (in *reader) require(holds bool) bool {
	in.malformed = in.malformed || !holds
	return holds
}

func (in *reader) step(e api.Sexp) api.Step {
	if !in.require(len(e.List) >= 2) {
		return api.Step{}
	}
	s := api.Step{Kind: kindOf(e.List[0]), Refs: in.numbers(e.List[1])}
	rest := e.List[2:]
	if !in.require(len(rest) == partsOf(s.Kind)) {
		return s
	}
	switch s.Kind {
	case api.StepRule:
		s.Rule, s.Subs = in.number(rest[0]), in.subs(rest[1])
	case api.StepGiven:
		s.Rule = in.number(rest[0])
	case api.StepRefl, api.StepFold, api.StepTop, api.StepNode:
		s.A = in.term(rest[0])
	case api.StepCong:
		s.A, s.B = in.term(rest[0]), in.term(rest[1])
	}
	return s
}

// kindOf returns the kind with a name, or 0.
func kindOf(e api.Sexp) int {
	for kind := api.StepRefl; kind <= api.StepGiven; kind++ {
		if e.Atom == proof.Kind(kind) {
			return kind
		}
	}
	return 0
}

// partsOf returns the number of elements of a line after the Refs, or -1 if there is
// no such kind.
func partsOf(kind int) int {
	switch kind {
	case api.StepRule, api.StepCong:
		return 2
	case api.StepGiven, api.StepRefl, api.StepFold, api.StepTop, api.StepNode:
		return 1
	case api.StepSym, api.StepTrans, api.StepMeet, api.StepMove, api.StepSingle:
		return 0
	}
	return -1
}

func (in *reader) number(e api.Sexp) int {
	n, code := digits.ParseInt(e.Atom)
	in.require(code == api.OK)
	return n
}

func (in *reader) numbers(e api.Sexp) []int {
	in.require(e.Atom == "")
	var l []int
	for _, x := range e.List {
		l = append(l, in.number(x))
	}
	return l
}

func (in *reader) subs(e api.Sexp) []api.Sub {
	in.require(e.Atom == "")
	var l []api.Sub
	for _, x := range e.List {
		if in.require(len(x.List) == 2 && x.List[0].Atom != "") {
			l = append(l, api.Sub{Name: x.List[0].Atom, Term: in.term(x.List[1])})
		}
	}
	return l
}

func (in *reader) term(e api.Sexp) api.Term {
	t, code := termtext.Read(e)
	if in.failed == api.OK {
		in.failed = code
	}
	return t
}
