// Package opinfo is layer 4: the operator table. See shared/doc/04-opinfo.md.
package opinfo

import (
	"slices"

	"saturate/api"
)

// names is indexed by operators; NoOp has no name.
var names = [...]string{
	"", "var", "const", "not", "neg", "and", "or", "xor", "add", "sub", "mul", "udiv", "urem", "shl",
	"lshr", "ashr", "eq", "ult", "slt", "ite", "concat", "extract", "zext", "sext", "hole", "num", "eval",
}

// isOperator reports whether op is one of the operators of api.
func isOperator(op api.Op) bool {
	return op > api.NoOp && int(op) < len(names)
}

// Name is specified in P4.1.
func Name(op api.Op) string {
	if !isOperator(op) {
		return ""
	}
	return names[op]
}

// Of is specified in P4.1.
func Of(name string) (api.Op, bool) {
	for _, op := range Ops() {
		if names[op] == name {
			return op, true
		}
	}
	return api.NoOp, false
}

// Arity is specified in P4.2.
func Arity(op api.Op) int {
	operands := 0
	switch op {
	case api.OpIte:
		operands++
		fallthrough
	case api.OpAnd, api.OpOr, api.OpXor, api.OpAdd, api.OpSub, api.OpMul, api.OpUdiv, api.OpUrem,
		api.OpShl, api.OpLshr, api.OpAshr, api.OpEq, api.OpUlt, api.OpSlt, api.OpConcat:
		operands++
		fallthrough
	case api.OpNot, api.OpNeg, api.OpExtract, api.OpZext, api.OpSext, api.OpEval:
		operands++
		fallthrough
	case api.OpVar, api.OpConst, api.OpHole, api.OpNum:
		return operands
	}
	return -1
}

// Commutes is specified in P4.2.
func Commutes(op api.Op) bool {
	switch op {
	case api.OpAnd, api.OpOr, api.OpXor, api.OpAdd, api.OpMul, api.OpEq:
		return true
	}
	return false
}

// Leaf is specified in P4.2.
func Leaf(op api.Op) bool {
	return Arity(op) == 0
}

// Pattern is specified in P4.2.
func Pattern(op api.Op) bool {
	switch op {
	case api.OpHole, api.OpNum, api.OpEval:
		return true
	}
	return false
}

// Width is specified in P4.3.
func Width(op api.Op, width int, val uint64, args []int) (int, api.Errno) {
	if len(args) != Arity(op) { // also if op is not an operator
		return 0, api.ErrOp
	}
	for _, w := range args {
		if !isWidth(w) {
			return 0, api.ErrWidth
		}
	}
	w, ok := widthOfValue(op, width, val, args)
	if !ok {
		return 0, api.ErrWidth
	}
	return w, api.OK
}

// Concrete returns the error of Width, or else the first of these: ErrOp if op is
// a pattern operator, ErrWidth if a width involved is generic. Otherwise it
// returns the width of the value of op. The abstract domains share it.
func Concrete(op api.Op, width int, val uint64, args []int) (int, api.Errno) {
	result, e := Width(op, width, val, args)
	switch {
	case e != api.OK:
		return 0, e
	case Pattern(op):
		return 0, api.ErrOp
	case result == 0 || slices.Contains(args, 0):
		return 0, api.ErrWidth
	}
	return result, api.OK
}

// isWidth reports whether w is a width or the generic width 0.
func isWidth(w int) bool {
	return 0 <= w && w <= api.MaxWidth
}

// widthOfValue returns the width that op gives its value, and whether the
// condition of op holds. args has as many widths as op has operands.
func widthOfValue(op api.Op, width int, val uint64, args []int) (int, bool) {
	switch op {
	case api.OpVar, api.OpHole, api.OpNum:
		return width, isWidth(width)
	case api.OpConst:
		return width, isWidth(width) && (width == 0 || fits(val, width))
	case api.OpNot, api.OpNeg, api.OpEval:
		return args[0], true
	case api.OpEq, api.OpUlt, api.OpSlt:
		return 1, args[0] == args[1]
	case api.OpIte:
		return args[1], args[0] == 1 && args[1] == args[2]
	case api.OpConcat:
		sum := args[0] + args[1]
		return sum, args[0] >= 1 && args[1] >= 1 && isWidth(sum)
	case api.OpExtract:
		// The offset is compared unsigned, so that the difference must not be negative.
		inside := width >= 1 && width <= args[0] && val <= uint64(args[0]-width)
		return width, inside
	case api.OpZext, api.OpSext:
		return width, args[0] >= 1 && args[0] <= width && isWidth(width)
	default:
		return args[0], args[0] == args[1]
	}
}

// fits reports whether val is less than 2^width.
func fits(val uint64, width int) bool {
	return val>>width == 0
}

// Ops is specified in P4.1.
func Ops() []api.Op {
	var ops []api.Op
	for op := api.OpVar; isOperator(op); op++ {
		ops = append(ops, op)
	}
	return ops
}
