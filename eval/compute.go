package eval

import (
	"saturate/api"
	"saturate/bits"
)

// operands are the reduced values of the operands of an operator. Those that
// it does not have are ignored.
type operands [3]api.Word

// compute returns the value of an operator other than var. width is that of its value.
func compute(op api.Op, width int, val uint64, x *operands) uint64 {
	switch op {
	case api.OpConst:
		return val
	case api.OpIte:
		if x[0] == (api.Word{Width: 1, Val: 1}) {
			return x[1].Val
		}
		return x[2].Val
	case api.OpConcat:
		return bits.Concat(x[0].Width, x[1].Width, x[0].Val, x[1].Val)
	case api.OpExtract:
		return bits.Extract(int(val), width, x[0].Val)
	case api.OpZext:
		return x[0].Val
	case api.OpSext:
		return bits.Sext(x[0].Width, width, x[0].Val)
	}
	return calculate(op, x[0].Width, x[0].Val, x[1].Val)
}

// calculate returns the value of an operator whose operands all have the width w.
func calculate(op api.Op, w int, a, b uint64) uint64 {
	switch op {
	case api.OpNot:
		return bits.Not(w, a)
	case api.OpNeg:
		return bits.Neg(w, a)
	case api.OpAnd:
		return bits.And(w, a, b)
	case api.OpOr:
		return bits.Or(w, a, b)
	case api.OpXor:
		return bits.Xor(w, a, b)
	case api.OpAdd:
		return bits.Add(w, a, b)
	case api.OpSub:
		return bits.Sub(w, a, b)
	case api.OpMul:
		return bits.Mul(w, a, b)
	case api.OpUdiv:
		return bits.Udiv(w, a, b)
	case api.OpUrem:
		return bits.Urem(w, a, b)
	case api.OpShl:
		return bits.Shl(w, a, b)
	case api.OpLshr:
		return bits.Lshr(w, a, b)
	case api.OpAshr:
		return bits.Ashr(w, a, b)
	case api.OpEq:
		return bits.Eq(w, a, b)
	case api.OpUlt:
		return bits.Ult(w, a, b)
	}
	return bits.Slt(w, a, b)
}
