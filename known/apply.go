package known

import (
	"saturate/api"
	"saturate/bits"
	"saturate/opinfo"
)

// Apply is specified in P12.4.
func Apply(op api.Op, width int, val uint64, widths []int, args []api.Known) (api.Known, api.Errno) {
	if len(args) != len(widths) {
		return api.Known{}, api.ErrOp
	}
	r, e := opinfo.Concrete(op, width, val, widths)
	if e != api.OK {
		return api.Known{}, e
	}
	var x [3]api.Known
	for i, k := range args {
		x[i] = sane(widths[i], k)
	}
	switch op {
	case api.OpVar:
		return Top(r), api.OK
	case api.OpConst:
		return Const(r, val), api.OK
	case api.OpIte:
		return choose(r, x[0], x[1], x[2]), api.OK
	case api.OpConcat:
		return concat(widths[1], x[0], x[1]), api.OK
	case api.OpExtract, api.OpZext, api.OpSext:
		return resize(op, widths[0], r, int(val), x[0]), api.OK
	}
	return combine(op, widths[0], x[0], x[1]), api.OK
}

// choose returns the result of ite.
func choose(w int, condition, a, b api.Known) api.Known {
	switch condition {
	case Const(1, 1):
		return a
	case Const(1, 0):
		return b
	}
	return Join(w, a, b)
}

// concat returns the result of concat, whose second operand has width w.
func concat(w int, a, b api.Known) api.Known {
	return api.Known{Zeros: a.Zeros<<w | b.Zeros, Ones: a.Ones<<w | b.Ones}
}

// resize returns the result, of width r, of an operator that takes bits of its
// operand or adds some to it.
func resize(op api.Op, w, r, low int, a api.Known) api.Known {
	switch op {
	case api.OpExtract:
		return api.Known{Zeros: bits.Extract(low, r, a.Zeros), Ones: bits.Extract(low, r, a.Ones)}
	case api.OpZext:
		return api.Known{Zeros: a.Zeros | bits.Mask(r)&^bits.Mask(w), Ones: a.Ones}
	}
	// A highest bit that is not known is 0 in both parts, and so are its copies.
	return api.Known{Zeros: bits.Sext(w, r, a.Zeros), Ones: bits.Sext(w, r, a.Ones)}
}

// combine returns the result of an operator whose operands have the width w.
func combine(op api.Op, w int, a, b api.Known) api.Known {
	switch op {
	case api.OpNot:
		return not(a)
	case api.OpNeg:
		return Sub(w, Const(w, 0), a)
	case api.OpAnd:
		return api.Known{Zeros: a.Zeros | b.Zeros, Ones: a.Ones & b.Ones}
	case api.OpOr:
		return api.Known{Zeros: a.Zeros & b.Zeros, Ones: a.Ones | b.Ones}
	case api.OpXor:
		return api.Known{Zeros: a.Zeros&b.Zeros | a.Ones&b.Ones, Ones: a.Zeros&b.Ones | a.Ones&b.Zeros}
	case api.OpAdd:
		return Add(w, a, b)
	case api.OpSub:
		return Sub(w, a, b)
	case api.OpMul:
		return product(w, a, b)
	case api.OpShl, api.OpLshr, api.OpAshr:
		return shift(op, w, a, b)
	case api.OpUdiv, api.OpUrem:
		return divide(op, w, a, b)
	}
	return compare(op, w, a, b)
}

func not(a api.Known) api.Known {
	return api.Known{Zeros: a.Ones, Ones: a.Zeros}
}

// product returns the result of mul.
func product(w int, a, b api.Known) api.Known {
	if x, y, ok := values(w, a, b); ok {
		return Const(w, bits.Mul(w, x, y))
	}
	return lowZeros(w, trailing(a)+trailing(b))
}

// trailing returns the number of low bits that are known to be 0.
func trailing(k api.Known) int {
	if k.Zeros == bits.Mask(api.MaxWidth) {
		return api.MaxWidth
	}
	return bits.Lowest(^k.Zeros)
}

// lowZeros returns the element in which n low bits, or all of them if there are
// fewer, are known to be 0.
func lowZeros(w, n int) api.Known {
	return api.Known{Zeros: bits.Cut(w, 1<<n-1)}
}

// shift returns the result of shl, lshr or ashr.
func shift(op api.Op, w int, a, b api.Known) api.Known {
	by, ok := Single(w, b)
	switch {
	case !ok:
		return Top(w)
	case op == api.OpShl:
		entered := bits.Not(w, bits.Shl(w, bits.Mask(w), by))
		return api.Known{Zeros: bits.Shl(w, a.Zeros, by) | entered, Ones: bits.Shl(w, a.Ones, by)}
	case op == api.OpLshr:
		entered := bits.Not(w, bits.Lshr(w, bits.Mask(w), by))
		return api.Known{Zeros: bits.Lshr(w, a.Zeros, by) | entered, Ones: bits.Lshr(w, a.Ones, by)}
	}
	// As for sext, the bits that enter are known if the highest one is.
	return api.Known{Zeros: bits.Ashr(w, a.Zeros, by), Ones: bits.Ashr(w, a.Ones, by)}
}

// divide returns the result of udiv or urem.
func divide(op api.Op, w int, a, b api.Known) api.Known {
	if y, ok := Single(w, b); ok && op == api.OpUrem && bits.Count(y) == 1 {
		return combine(api.OpAnd, w, a, Const(w, y-1))
	}
	x, y, ok := values(w, a, b)
	switch {
	case !ok:
		return Top(w)
	case op == api.OpUrem:
		return Const(w, bits.Urem(w, x, y))
	}
	return Const(w, bits.Udiv(w, x, y))
}

// compare returns the result of eq, ult or slt.
func compare(op api.Op, w int, a, b api.Known) api.Known {
	if _, ok := Meet(w, a, b); !ok && op == api.OpEq {
		return Const(1, 0)
	}
	x, y, ok := values(w, a, b)
	switch {
	case !ok:
		return Top(1)
	case op == api.OpEq:
		return Const(1, bits.Eq(w, x, y))
	case op == api.OpUlt:
		return Const(1, bits.Ult(w, x, y))
	}
	return Const(1, bits.Slt(w, x, y))
}

// values returns the values of both operands, if they are single.
func values(w int, a, b api.Known) (x, y uint64, ok bool) {
	x, first := Single(w, a)
	y, second := Single(w, b)
	return x, y, first && second
}
