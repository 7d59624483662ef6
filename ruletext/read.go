package ruletext

import (
	"slices"

	"saturate/api"
	"saturate/rule"
	"saturate/termtext"
)

// Read is specified in P29.1.
func Read(e api.Sexp) (api.Rule, api.Errno) {
	if !isRule(e) {
		return api.Rule{}, api.ErrParse
	}
	in := reader{}
	r := api.Rule{Name: e.List[1].Atom}
	r.Left = in.left(e.List[2])
	r.Right = in.pattern(e.List[3])
	for _, x := range e.List[4:] {
		r.Guards = append(r.Guards, in.guard(x))
	}
	code := in.failed
	if code == api.OK {
		code = rule.Check(r)
	}
	if code != api.OK {
		return api.Rule{}, code
	}
	return r, api.OK
}

// isList reports whether e is a list that begins with an atom.
func isList(e api.Sexp, word string) bool {
	return e.Atom == "" && len(e.List) > 0 && e.List[0].Atom == word
}

// isRule reports whether e has the form of a rule, whose patterns may be anything.
func isRule(e api.Sexp) bool {
	return isList(e, ruleWord) && len(e.List) >= 4 && e.List[1].Atom != "" &&
		isLeft(e.List[2]) && !slices.ContainsFunc(e.List[4:], func(x api.Sexp) bool { return kindOf(x) == 0 })
}

func isLeft(e api.Sexp) bool {
	return !isList(e, allWord) || !slices.ContainsFunc(e.List[1:], func(x api.Sexp) bool { return !isAtom(x) })
}

// isAtom reports whether e has the form of an atom of a rule.
func isAtom(e api.Sexp) bool {
	return e.Atom == "" && len(e.List) == 2 && e.List[0].Atom != ""
}

// kindOf returns the kind of the guard whose form e has, or 0.
func kindOf(e api.Sexp) int {
	for kind := api.GuardPred; kind < len(guardWords); kind++ {
		if isList(e, guardWords[kind]) && len(e.List) == 1+patternsOf(kind) {
			return kind
		}
	}
	return 0
}

// reader reads the patterns of a rule one after the other and keeps the first error.
type reader struct {
	failed api.Errno
}

func (in *reader) pattern(e api.Sexp) api.Term {
	p, code := termtext.Read(e)
	if in.failed == api.OK {
		in.failed = code
	}
	return p
}

func (in *reader) left(e api.Sexp) []api.Atom {
	if !isList(e, allWord) {
		return []api.Atom{{Pattern: in.pattern(e)}}
	}
	var l []api.Atom
	for _, x := range e.List[1:] {
		a := api.Atom{Root: x.List[0].Atom, Pattern: in.pattern(x.List[1])}
		if a.Root == noRoot {
			a.Root = ""
		}
		l = append(l, a)
	}
	return l
}

func (in *reader) guard(e api.Sexp) api.Guard {
	c := api.Guard{Kind: kindOf(e), A: in.pattern(e.List[1])}
	if patternsOf(c.Kind) > 1 {
		c.B = in.pattern(e.List[2])
	}
	return c
}
