package termtext

import (
	"math"
	"strings"

	"saturate/api"
	"saturate/digits"
	"saturate/opinfo"
	"saturate/sexpr"
	"saturate/term"
)

// failure is the value of the panic by which the reader gives up.
type failure struct {
	code api.Errno
}

// require gives up with a code unless a condition holds.
func require(holds bool, code api.Errno) {
	if !holds {
		panic(failure{code})
	}
}

// Read is specified in P7.1.
func Read(e api.Sexp) (t api.Term, code api.Errno) {
	defer func() {
		if f, ok := recover().(failure); ok {
			t, code = api.Term{}, f.code
		}
	}()
	return read(e), api.OK
}

// Parse is specified in P7.1.
func Parse(s string) (api.Term, api.Errno) {
	e, _, code := sexpr.Parse(s)
	if code != api.OK {
		return api.Term{}, code
	}
	return Read(e)
}

func read(e api.Sexp) api.Term {
	if e.Atom != "" {
		return readLeaf(e.Atom)
	}
	return readNode(e.List)
}

func readLeaf(text string) api.Term {
	label, width, found := strings.Cut(text, ":")
	constant := '0' <= text[0] && text[0] <= '9'
	// A second colon makes the text after the first one no numeral.
	require(found && isDecimal(width) && (!constant || isDecimal(label)), api.ErrParse)
	if constant {
		t := api.Term{Op: api.OpConst, Val: number(label, math.MaxUint64)}
		return withWidth(t, width)
	}
	return withWidth(named(label), width)
}

// named returns a var, a hole or a num.
func named(label string) api.Term {
	t := api.Term{Op: api.OpVar, Name: label}
	if name, ok := strings.CutPrefix(label, "?"); ok {
		t = api.Term{Op: api.OpHole, Name: name}
	} else if name, ok := strings.CutPrefix(label, "#"); ok {
		t = api.Term{Op: api.OpNum, Name: name}
	}
	require(term.Name(t.Name), api.ErrName)
	return t
}

// withWidth returns a leaf with the width that a numeral gives it.
func withWidth(t api.Term, width string) api.Term {
	t.Width = int(number(width, api.MaxWidth))
	return typed(t)
}

func readNode(list []api.Sexp) api.Term {
	require(len(list) > 0, api.ErrParse)
	op, ok := opinfo.Of(list[0].Atom)
	require(ok && !opinfo.Leaf(op) && len(list) == elements(op), api.ErrParse)
	t, rest := api.Term{Op: op}, list[1:]
	if hasOffset(op) {
		t.Val = numeral(rest[0], math.MaxUint64)
		rest = rest[1:]
	}
	if hasWidth(op) {
		t.Width = int(numeral(rest[0], api.MaxWidth))
		rest = rest[1:]
	}
	for _, e := range rest {
		t.Args = append(t.Args, read(e))
	}
	return typed(t)
}

// typed returns a node with the width of its value. Before, its width is the
// one that its notation contains, if any.
func typed(t api.Term) api.Term {
	var widths []int
	for _, arg := range t.Args {
		widths = append(widths, arg.Width)
	}
	width, code := opinfo.Width(t.Op, t.Width, t.Val, widths)
	require(code == api.OK, code)
	t.Width = width
	return t
}

// numeral returns the number that an element of a list stands for.
func numeral(e api.Sexp, most uint64) uint64 {
	require(isDecimal(e.Atom), api.ErrParse)
	return number(e.Atom, most)
}

// number returns the number that a decimal numeral denotes.
func number(s string, most uint64) uint64 {
	n, code := digits.Parse(s)
	require(code == api.OK && n <= most, api.ErrRange)
	return n
}

// isDecimal reports whether s is a decimal numeral, of a number of any size.
func isDecimal(s string) bool {
	_, code := digits.Parse(s)
	return code != api.ErrParse && !strings.HasPrefix(s, "0x")
}
