package ranges

import (
	mathbits "math/bits"

	"saturate/api"
	"saturate/bits"
	"saturate/opinfo"
)

// Apply is specified in P13.3.
func Apply(op api.Op, width int, val uint64, widths []int, args []api.Range) (api.Range, api.Errno) {
	if len(args) != len(widths) {
		return api.Range{}, api.ErrOp
	}
	r, e := opinfo.Concrete(op, width, val, widths)
	if e != api.OK {
		return api.Range{}, e
	}
	var x [3]api.Range
	for i, a := range args {
		x[i] = sane(widths[i], a)
	}
	switch op {
	case api.OpVar:
		return Top(r), api.OK
	case api.OpConst:
		return Const(r, val), api.OK
	case api.OpIte:
		return choose(r, x[0], x[1], x[2]), api.OK
	case api.OpConcat:
		return concat(widths[1], x[0], x[1]), api.OK
	case api.OpExtract, api.OpZext, api.OpSext:
		return resize(op, widths[0], r, val, x[0]), api.OK
	case api.OpEq, api.OpUlt, api.OpSlt:
		return compare(op, widths[0], x[0], x[1]), api.OK
	case api.OpShl, api.OpLshr, api.OpAshr:
		return shift(op, r, x[0], x[1]), api.OK
	case api.OpNot, api.OpNeg, api.OpAnd, api.OpOr, api.OpXor:
		return logic(op, r, x[0], x[1]), api.OK
	}
	return calculate(op, r, x[0], x[1]), api.OK
}

// choose returns the result of ite.
func choose(w int, condition, a, b api.Range) api.Range {
	bit, single := Single(1, condition)
	switch {
	case !single:
		return Join(w, a, b)
	case bit == 1:
		return a
	}
	return b
}

// concat returns the result of concat, whose second operand has width w.
func concat(w int, a, b api.Range) api.Range {
	return api.Range{Lo: a.Lo<<w | b.Lo, Hi: a.Hi<<w | b.Hi}
}

// resize returns the result, of width r, of an operator that takes bits of its
// operand, of width w, or adds some to it.
func resize(op api.Op, w, r int, low uint64, a api.Range) api.Range {
	switch op {
	case api.OpExtract:
		switch {
		case low == 0 && a.Hi <= bits.Mask(r):
			return a
		case low == uint64(w-r):
			return api.Range{Lo: a.Lo >> low, Hi: a.Hi >> low}
		}
		return Top(r)
	case api.OpSext:
		switch {
		case isNegative(w, a.Lo):
			return api.Range{Lo: bits.Sext(w, r, a.Lo), Hi: bits.Sext(w, r, a.Hi)}
		case isNegative(w, a.Hi):
			return Top(r)
		}
		fallthrough
	default: // zext
		return a
	}
}

// isNegative reports whether x is negative as a signed number.
func isNegative(w int, x uint64) bool {
	return x > bits.Mask(w)>>1
}

// compare returns the result of eq, ult or slt.
func compare(op api.Op, w int, a, b api.Range) api.Range {
	switch op {
	case api.OpSlt:
		if !isNegative(w, min(a.Lo, b.Lo)) && isNegative(w, max(a.Hi, b.Hi)) {
			return Top(1)
		}
		fallthrough
	case api.OpUlt:
		switch {
		case a.Hi < b.Lo:
			return Const(1, 1)
		case a.Lo >= b.Hi:
			return Const(1, 0)
		}
		return Top(1)
	}
	switch {
	case max(a.Lo, b.Lo) > min(a.Hi, b.Hi):
		return Const(1, 0)
	case a == b && a.Lo == a.Hi:
		return Const(1, 1)
	}
	return Top(1)
}

// shift returns the result of shl, lshr or ashr.
func shift(op api.Op, w int, a, b api.Range) api.Range {
	by, single := Single(w, b)
	switch op {
	case api.OpAshr:
		if isNegative(w, a.Hi) {
			return Top(w)
		}
		fallthrough
	case api.OpLshr:
		if single {
			return api.Range{Lo: bits.Lshr(w, a.Lo, by), Hi: bits.Lshr(w, a.Hi, by)}
		}
		return api.Range{Hi: a.Hi}
	}
	switch {
	case single && by >= uint64(w):
		return Const(w, 0)
	case single && a.Hi <= bits.Mask(w)>>by:
		return api.Range{Lo: a.Lo << by, Hi: a.Hi << by}
	}
	return Top(w)
}

// logic returns the result of an operator that keeps to a simple bound.
func logic(op api.Op, w int, a, b api.Range) api.Range {
	switch op {
	case api.OpNot:
		return api.Range{Lo: bits.Not(w, a.Hi), Hi: bits.Not(w, a.Lo)}
	case api.OpNeg:
		return negation(w, a)
	case api.OpAnd:
		return api.Range{Hi: min(a.Hi, b.Hi)}
	case api.OpOr:
		return api.Range{Lo: max(a.Lo, b.Lo), Hi: Fill(a.Hi | b.Hi)}
	default: // xor
		return api.Range{Hi: Fill(a.Hi | b.Hi)}
	}
}

func negation(w int, a api.Range) api.Range {
	switch {
	case a == Const(w, 0):
		return a
	case a.Lo == 0:
		return Top(w)
	}
	return api.Range{Lo: bits.Neg(w, a.Hi), Hi: bits.Neg(w, a.Lo)}
}

// calculate returns the result of an arithmetic operator with two operands.
func calculate(op api.Op, w int, a, b api.Range) api.Range {
	switch op {
	case api.OpAdd:
		return sum(w, a, b)
	case api.OpSub:
		return difference(w, a, b)
	case api.OpMul:
		return product(w, a, b)
	case api.OpUdiv:
		if b.Lo == 0 {
			return Top(w)
		}
		return api.Range{Lo: a.Lo / b.Hi, Hi: a.Hi / b.Lo}
	default:
		return remainder(a, b)
	}
}

func sum(w int, a, b api.Range) api.Range {
	m := bits.Mask(w)
	// x + y exceeds m exactly if x exceeds m - y, which does not overflow.
	if (a.Lo > m-b.Lo) != (a.Hi > m-b.Hi) {
		return Top(w)
	}
	return api.Range{Lo: bits.Add(w, a.Lo, b.Lo), Hi: bits.Add(w, a.Hi, b.Hi)}
}

func difference(w int, a, b api.Range) api.Range {
	if (a.Lo < b.Hi) != (a.Hi < b.Lo) {
		return Top(w)
	}
	return api.Range{Lo: bits.Sub(w, a.Lo, b.Hi), Hi: bits.Sub(w, a.Hi, b.Lo)}
}

func product(w int, a, b api.Range) api.Range {
	high, low := mathbits.Mul64(a.Hi, b.Hi)
	if high != 0 || low > bits.Mask(w) {
		return Top(w)
	}
	return api.Range{Lo: a.Lo * b.Lo, Hi: low}
}

func remainder(a, b api.Range) api.Range {
	switch {
	case a.Hi < b.Lo:
		return a
	case b.Lo > 0:
		return api.Range{Hi: min(a.Hi, b.Hi-1)}
	}
	return api.Range{Hi: a.Hi}
}
