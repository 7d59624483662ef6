package ruletext

import (
	"saturate/api"
	"saturate/termtext"
)

// Write is specified in P29.1.
func Write(r api.Rule) api.Sexp {
	e := list(atom(ruleWord), atom(r.Name), writeLeft(r.Left), termtext.Write(r.Right))
	for _, c := range r.Guards {
		e.List = append(e.List, writeGuard(c))
	}
	return e
}

// atom returns an atom, or an empty list for an empty text.
func atom(s string) api.Sexp {
	return api.Sexp{Atom: s}
}

func list(elements ...api.Sexp) api.Sexp {
	return api.Sexp{List: elements}
}

func writeLeft(l []api.Atom) api.Sexp {
	if len(l) == 1 && l[0].Root == "" {
		return termtext.Write(l[0].Pattern)
	}
	e := list(atom(allWord))
	for _, a := range l {
		root := a.Root
		if root == "" {
			root = noRoot
		}
		e.List = append(e.List, list(atom(root), termtext.Write(a.Pattern)))
	}
	return e
}

func writeGuard(c api.Guard) api.Sexp {
	if c.Kind < api.GuardPred || c.Kind >= len(guardWords) {
		return atom(unwritable)
	}
	e := list(atom(guardWords[c.Kind]), termtext.Write(c.A))
	if patternsOf(c.Kind) > 1 {
		e.List = append(e.List, termtext.Write(c.B))
	}
	return e
}
