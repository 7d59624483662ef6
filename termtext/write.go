package termtext

import (
	"saturate/api"
	"saturate/digits"
	"saturate/opinfo"
	"saturate/sexpr"
	"saturate/term"
)

// unwritable stands for a node without a notation.
const unwritable = "?"

// Write is specified in P7.2.
func Write(t api.Term) api.Sexp {
	if !hasNotation(t) {
		return atom(unwritable)
	}
	if opinfo.Leaf(t.Op) {
		return atom(label(t) + ":" + digits.Int(t.Width))
	}
	list := []api.Sexp{atom(opinfo.Name(t.Op))}
	if hasOffset(t.Op) {
		list = append(list, atom(digits.Dec(t.Val)))
	}
	if hasWidth(t.Op) {
		list = append(list, atom(digits.Int(t.Width)))
	}
	for _, arg := range t.Args {
		list = append(list, Write(arg))
	}
	return api.Sexp{List: list}
}

// Print is specified in P7.2.
func Print(t api.Term) string {
	return sexpr.Print(Write(t))
}

func atom(s string) api.Sexp {
	return api.Sexp{Atom: s}
}

// hasNotation is about the node itself: its operands may have none.
func hasNotation(t api.Term) bool {
	if t.Width < 0 || t.Width > api.MaxWidth || len(t.Args) != opinfo.Arity(t.Op) {
		return false
	}
	switch t.Op {
	case api.OpVar, api.OpHole, api.OpNum:
		return term.Name(t.Name) && t.Val == 0
	case api.OpConst, api.OpExtract:
		return t.Name == ""
	}
	return t.Name == "" && t.Val == 0
}

// label returns what the notation of a leaf has before its colon.
func label(t api.Term) string {
	switch t.Op {
	case api.OpConst:
		return digits.Dec(t.Val)
	case api.OpHole:
		return "?" + t.Name
	case api.OpNum:
		return "#" + t.Name
	}
	return t.Name
}
