package prooftext

import (
	"strings"

	"saturate/api"
	"saturate/digits"
	"saturate/proof"
	"saturate/sexpr"
	"saturate/termtext"
)

// Line is specified in P36.1.
func Line(s api.Step) string {
	name := proof.Kind(s.Kind)
	if name == "" {
		return ""
	}
	e := list(atom(name), writeRefs(s.Refs))
	switch s.Kind {
	case api.StepRule:
		e.List = append(e.List, number(s.Rule), writeSubs(s.Subs))
	case api.StepGiven:
		e.List = append(e.List, number(s.Rule))
	case api.StepRefl, api.StepFold, api.StepTop, api.StepNode:
		e.List = append(e.List, termtext.Write(s.A))
	case api.StepCong:
		e.List = append(e.List, termtext.Write(s.A), termtext.Write(s.B))
	}
	return sexpr.Print(e)
}

// Print is specified in P36.1.
func Print(p []api.Step) string {
	var text strings.Builder
	for _, s := range p {
		text.WriteString(Line(s) + "\n")
	}
	return text.String()
}

// atom returns an atom, or an empty list for an empty text.
func atom(s string) api.Sexp {
	return api.Sexp{Atom: s}
}

func number(n int) api.Sexp {
	return atom(digits.Int(n))
}

func list(elements ...api.Sexp) api.Sexp {
	return api.Sexp{List: elements}
}

func writeRefs(refs []int) api.Sexp {
	var e api.Sexp
	for _, ref := range refs {
		e.List = append(e.List, number(ref))
	}
	return e
}

func writeSubs(subs []api.Sub) api.Sexp {
	var e api.Sexp
	for _, s := range subs {
		e.List = append(e.List, list(atom(s.Name), termtext.Write(s.Term)))
	}
	return e
}
