package subst

import (
	"saturate/api"
	"saturate/eval"
	"saturate/term"
)

// Fill is specified in P9.2.
func Fill(p api.Term, subs []api.Sub) (api.Term, api.Errno) {
	t, e := fill(p, terms(subs))
	if e == api.OK {
		e = term.Check(t)
	}
	if e != api.OK {
		return api.Term{}, e
	}
	// Only now it is known that t is small enough for a copy.
	return term.Copy(t), api.OK
}

// fill returns a term that shares memory with p and with the terms that are
// put into it.
func fill(p api.Term, byName map[string]api.Term) (api.Term, api.Errno) {
	var args []api.Term
	for _, arg := range p.Args {
		filled, e := fill(arg, byName)
		if e != api.OK {
			return api.Term{}, e
		}
		args = append(args, filled)
	}
	p.Args = args
	switch p.Op {
	case api.OpHole, api.OpNum:
		return entry(p, byName)
	case api.OpEval:
		return evaluate(p)
	}
	return p, api.OK
}

// entry returns the term that stands for a hole or a num.
func entry(p api.Term, byName map[string]api.Term) (api.Term, api.Errno) {
	t, ok := byName[p.Name]
	switch {
	case !ok:
		return api.Term{}, api.ErrBind
	case t.Width != p.Width:
		return api.Term{}, api.ErrWidth
	case p.Op == api.OpNum && t.Op != api.OpConst:
		return api.Term{}, api.ErrOp
	}
	return t, api.OK
}

// evaluate returns the constant that stands for an eval whose operand is filled.
func evaluate(p api.Term) (api.Term, api.Errno) {
	if len(p.Args) != 1 {
		return api.Term{}, api.ErrOp
	}
	val, e := eval.Eval(p.Args[0], nil)
	if e != api.OK {
		return api.Term{}, e
	}
	return term.Const(p.Args[0].Width, val), api.OK
}
