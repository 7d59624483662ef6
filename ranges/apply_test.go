package ranges_test

import (
	"math"
	"math/big"
	"math/rand/v2"
	"slices"
	"testing"

	"saturate/api"
	"saturate/bits"
	"saturate/eval"
	"saturate/opinfo"
	"saturate/ranges"
)

// call is a call of Apply.
type call struct {
	op     api.Op
	width  int
	val    uint64
	widths []int
	args   []api.Range
}

func (c call) apply(t *testing.T) api.Range {
	t.Helper()
	r, e := ranges.Apply(c.op, c.width, c.val, c.widths, c.args)
	if e != api.OK {
		t.Fatalf("Apply of %s, %v: %d", opinfo.Name(c.op), c, e)
	}
	return r
}

// result returns the width of the result.
func (c call) result() int {
	r, _ := opinfo.Width(c.op, c.width, c.val, c.widths)
	return r
}

func number(x uint64) *big.Int {
	return new(big.Int).SetUint64(x)
}

func plus(x, y *big.Int) *big.Int  { return new(big.Int).Add(x, y) }
func minus(x, y *big.Int) *big.Int { return new(big.Int).Sub(x, y) }
func mul(x, y *big.Int) *big.Int   { return new(big.Int).Mul(x, y) }

// power returns 2^n.
func power(n int) *big.Int {
	return new(big.Int).Lsh(big.NewInt(1), uint(n))
}

// oracle computes results by the text of P13.3, with numbers of any size.
type oracle struct {
	r, w  int      // the widths of the result and of the first operand
	m     *big.Int // the greatest result
	lo    [3]*big.Int
	hi    [3]*big.Int
	a, b  api.Range
	other api.Range
}

func newOracle(c call) *oracle {
	o := &oracle{r: c.result()}
	o.m = minus(power(o.r), big.NewInt(1))
	for i, arg := range c.args {
		arg = sane(c.widths[i], arg)
		o.lo[i], o.hi[i] = number(arg.Lo), number(arg.Hi)
		*[]*api.Range{&o.a, &o.b, &o.other}[i] = arg
	}
	if len(c.args) > 0 {
		o.w = c.widths[0]
	}
	return o
}

func (o *oracle) top() api.Range {
	return span(0, o.m.Uint64())
}

// exact returns the range of two numbers if they are from 0 to m, and Top otherwise.
func (o *oracle) exact(lo, hi *big.Int) api.Range {
	if lo.Sign() < 0 || hi.Cmp(o.m) > 0 {
		return o.top()
	}
	return span(lo.Uint64(), hi.Uint64())
}

// wrapped is like exact, but also accepts two numbers that are both outside, on the same side.
func (o *oracle) wrapped(lo, hi *big.Int) api.Range {
	if lo.Cmp(o.m) > 0 {
		return o.exact(minus(lo, power(o.r)), minus(hi, power(o.r)))
	}
	if hi.Sign() < 0 {
		return o.exact(plus(lo, power(o.r)), plus(hi, power(o.r)))
	}
	return o.exact(lo, hi)
}

// single reports whether an operand has one value only.
func (o *oracle) single(i int) bool {
	return o.lo[i].Cmp(o.hi[i]) == 0
}

// half returns 2^(w-1).
func (o *oracle) half() *big.Int {
	return power(o.w - 1)
}

// truth returns the result of a comparison.
func truth(always, never bool) api.Range {
	switch {
	case always:
		return span(1, 1)
	case never:
		return span(0, 0)
	}
	return span(0, 1)
}

// filled returns the range from 0 to Fill of both upper bounds.
func (o *oracle) filled() api.Range {
	hi := uint64(0)
	for hi < o.a.Hi|o.b.Hi {
		hi = 2*hi + 1
	}
	return span(0, hi)
}

// shifted returns the bounds divided by 2^n, rounded down.
func (o *oracle) shifted(n *big.Int) api.Range {
	by := uint(min(n.Uint64(), 64))
	if !n.IsUint64() {
		by = 64
	}
	return span(new(big.Int).Rsh(o.lo[0], by).Uint64(), new(big.Int).Rsh(o.hi[0], by).Uint64())
}

// want returns the result by P13.3.
func (c call) want() api.Range {
	o := newOracle(c)
	switch c.op {
	case api.OpNot:
		return o.exact(minus(o.m, o.hi[0]), minus(o.m, o.lo[0]))
	case api.OpNeg:
		if o.lo[0].Sign() == 0 && o.hi[0].Sign() > 0 {
			return o.top()
		}
		return span(bits.Neg(o.r, o.a.Hi), bits.Neg(o.r, o.a.Lo))
	case api.OpAnd:
		return span(0, min(o.a.Hi, o.b.Hi))
	case api.OpOr:
		return span(max(o.a.Lo, o.b.Lo), o.filled().Hi)
	case api.OpXor:
		return o.filled()
	case api.OpAdd:
		return o.wrapped(plus(o.lo[0], o.lo[1]), plus(o.hi[0], o.hi[1]))
	case api.OpSub:
		return o.wrapped(minus(o.lo[0], o.hi[1]), minus(o.hi[0], o.lo[1]))
	case api.OpMul:
		return o.exact(mul(o.lo[0], o.lo[1]), mul(o.hi[0], o.hi[1]))
	case api.OpUdiv, api.OpUrem:
		return o.divided(c.op)
	case api.OpShl, api.OpLshr, api.OpAshr:
		return o.moved(c.op)
	case api.OpEq, api.OpUlt, api.OpSlt:
		return o.compared(c.op)
	}
	return o.resized(c)
}

func (o *oracle) divided(op api.Op) api.Range {
	switch {
	case op == api.OpUdiv && o.lo[1].Sign() > 0:
		return span(o.a.Lo/o.b.Hi, o.a.Hi/o.b.Lo)
	case op == api.OpUdiv:
		return o.top()
	case o.hi[0].Cmp(o.lo[1]) < 0:
		return o.a
	case o.lo[1].Sign() > 0:
		return span(0, min(o.a.Hi, o.b.Hi-1))
	}
	return span(0, o.a.Hi)
}

func (o *oracle) moved(op api.Op) api.Range {
	switch {
	case op == api.OpShl && !o.single(1):
		return o.top()
	case op == api.OpShl && o.b.Lo >= uint64(o.r):
		return span(0, 0)
	case op == api.OpShl:
		return o.exact(mul(o.lo[0], power(int(o.b.Lo))), mul(o.hi[0], power(int(o.b.Lo))))
	case op == api.OpAshr && o.hi[0].Cmp(o.half()) >= 0:
		return o.top()
	case o.single(1):
		return o.shifted(o.lo[1])
	}
	return span(0, o.a.Hi)
}

func (o *oracle) compared(op api.Op) api.Range {
	low := o.hi[0].Cmp(o.half()) < 0 && o.hi[1].Cmp(o.half()) < 0
	high := o.lo[0].Cmp(o.half()) >= 0 && o.lo[1].Cmp(o.half()) >= 0
	switch {
	case op == api.OpEq:
		return truth(o.single(0) && o.single(1) && o.a == o.b, o.a.Hi < o.b.Lo || o.b.Hi < o.a.Lo)
	case op == api.OpSlt && !low && !high:
		return span(0, 1)
	}
	return truth(o.hi[0].Cmp(o.lo[1]) < 0, o.lo[0].Cmp(o.hi[1]) >= 0)
}

// resized is about operators whose operands have different widths.
func (o *oracle) resized(c call) api.Range {
	switch c.op {
	case api.OpIte:
		return []api.Range{0: o.other, 1: o.b, 2: span(min(o.b.Lo, o.other.Lo), max(o.b.Hi, o.other.Hi))}[o.a.Lo+2*(o.a.Hi-o.a.Lo)]
	case api.OpConcat:
		by := power(c.widths[1])
		return o.exact(plus(mul(o.lo[0], by), o.lo[1]), plus(mul(o.hi[0], by), o.hi[1]))
	case api.OpExtract:
		switch {
		case c.val == 0 && o.hi[0].Cmp(o.m) <= 0:
			return o.a
		case int(c.val)+o.r == o.w:
			return o.shifted(number(c.val))
		}
		return o.top()
	case api.OpSext:
		switch {
		case o.lo[0].Cmp(o.half()) >= 0:
			added := minus(power(o.r), power(o.w))
			return o.exact(plus(o.lo[0], added), plus(o.hi[0], added))
		case o.hi[0].Cmp(o.half()) >= 0:
			return o.top()
		}
	}
	return o.a // also for zext
}

// calls calls visit with calls of all operators for all elements of small widths.
func calls(most int, elements func(w int) []api.Range, visit func(c call)) {
	for w := 1; w <= most; w++ {
		for _, a := range elements(w) {
			visit(call{api.OpNot, 0, 0, []int{w}, []api.Range{a}})
			visit(call{api.OpNeg, 0, 0, []int{w}, []api.Range{a}})
			for r := w; r <= w+2; r++ {
				visit(call{api.OpZext, r, 0, []int{w}, []api.Range{a}})
				visit(call{api.OpSext, r, 0, []int{w}, []api.Range{a}})
			}
			for r := 1; r <= w; r++ {
				for low := range w - r + 1 {
					visit(call{api.OpExtract, r, uint64(low), []int{w}, []api.Range{a}})
				}
			}
			for _, b := range elements(w) {
				for op := api.OpAnd; op <= api.OpSlt; op++ {
					visit(call{op, 0, 0, []int{w, w}, []api.Range{a, b}})
				}
				for _, c := range elements(1) {
					if w <= 2 {
						visit(call{api.OpIte, 0, 0, []int{1, w, w}, []api.Range{c, a, b}})
					}
				}
			}
			for v := 1; v <= 2; v++ {
				for _, b := range elements(v) {
					visit(call{api.OpConcat, 0, 0, []int{w, v}, []api.Range{a, b}})
				}
			}
		}
	}
}

// TestApply checks P13.3 for all elements of small widths, and those that are not valid.
func TestApply(t *testing.T) {
	calls(4, arguments, func(c call) {
		if r, want := c.apply(t), c.want(); r != want {
			t.Fatalf("%s of %v is %v, not %v", opinfo.Name(c.op), c, r, want)
		}
	})
	for _, w := range []int{1, 4, 63, 64} {
		if r := (call{api.OpVar, w, 99, nil, nil}).apply(t); r != span(0, bits.Mask(w)) {
			t.Error("a variable:", r)
		}
		if r := (call{api.OpConst, w, 1, nil, nil}).apply(t); r != span(1, 1) {
			t.Error("a constant:", r)
		}
	}
}

// TestSound checks the soundness of P13.4 for all elements of small widths.
func TestSound(t *testing.T) {
	calls(3, elements, func(c call) {
		r := c.apply(t)
		if !ranges.Valid(c.result(), r) {
			t.Fatalf("%s of %v is %v", opinfo.Name(c.op), c, r)
		}
		var visit func(words []api.Word)
		visit = func(words []api.Word) {
			i := len(words)
			if i == len(c.args) {
				if x, e := eval.Apply(c.op, c.width, c.val, words); e != api.OK || !ranges.Has(c.result(), r, x) {
					t.Fatalf("%s of %v is %v, without %d", opinfo.Name(c.op), c, r, x)
				}
				return
			}
			for _, x := range values(c.widths[i], c.args[i]) {
				visit(append(slices.Clone(words), api.Word{Width: c.widths[i], Val: x}))
			}
		}
		visit(nil)
	})
}

// randomCall returns a call with any widths, and the value of the operator for
// operand values that the operands contain.
func randomCall(r *rand.Rand) (call, uint64) {
	op := api.OpNot + api.Op(r.IntN(int(api.OpSext-api.OpNot)+1))
	w := 1 + r.IntN(64)
	if r.IntN(3) == 0 {
		w = 64
	}
	c := call{op: op, widths: slices.Repeat([]int{w}, opinfo.Arity(op))}
	switch op {
	case api.OpIte:
		c.widths[0] = 1
	case api.OpConcat:
		c.widths[0] = 1 + r.IntN(63)
		c.widths[1] = 1 + r.IntN(64-c.widths[0])
	case api.OpExtract:
		c.val = uint64(r.IntN(w))
		c.width = 1 + r.IntN(w-int(c.val))
		if r.IntN(3) == 0 { // the highest bits
			c.width = w - int(c.val)
		}
	case api.OpZext, api.OpSext:
		c.width = w + r.IntN(65-w)
	}
	var words []api.Word
	for _, width := range c.widths {
		element, x := random(r, width)
		if r.IntN(4) == 0 { // an amount to shift by
			x = bits.Cut(width, uint64(r.IntN(70)))
			element = span(x, x)
		}
		c.args = append(c.args, element)
		words = append(words, api.Word{Width: width, Val: x})
	}
	x, _ := eval.Apply(c.op, c.width, c.val, words)
	return c, x
}

// TestWide checks P13.3 and P13.4 for all widths.
func TestWide(t *testing.T) {
	r := rand.New(rand.NewPCG(13, 3))
	for range 200000 {
		c, x := randomCall(r)
		got := c.apply(t)
		if want := c.want(); got != want {
			t.Fatalf("%s of %v is %v, not %v", opinfo.Name(c.op), c, got, want)
		}
		if !ranges.Valid(c.result(), got) || !ranges.Has(c.result(), got, x) {
			t.Fatalf("%s of %v is %v, without %d", opinfo.Name(c.op), c, got, x)
		}
	}
}

// TestWideBounds checks P13.3 for sums, products and shifts at the limit of width 64.
func TestWideBounds(t *testing.T) {
	top, high := uint64(math.MaxUint64), uint64(1)<<63
	two := []int{64, 64}
	for i, c := range []struct {
		op   api.Op
		a, b api.Range
		want api.Range
	}{
		{api.OpAdd, span(1, high), span(2, high-1), span(3, top)}, {api.OpAdd, span(1, high), span(2, high), span(0, top)}, {api.OpAdd, span(high, top), span(high, top), span(0, top-1)}, {api.OpAdd, span(top, top), span(1, 1), span(0, 0)}, {api.OpAdd, span(high-1, top), span(high, high), span(0, top)},
		{api.OpSub, span(0, 0), span(1, top), span(1, top)}, {api.OpSub, span(5, top), span(0, 5), span(0, top)}, {api.OpSub, span(5, top), span(0, 6), span(0, top)}, {api.OpSub, span(0, 4), span(5, 5), span(top-4, top)}, {api.OpSub, span(0, 5), span(5, 5), span(0, top)},
		{api.OpMul, span(3, 1<<32-1), span(5, 1<<32+1), span(15, top)}, {api.OpMul, span(3, 1<<32), span(5, 1<<32), span(0, top)}, {api.OpMul, span(0, 0), span(0, top), span(0, 0)}, {api.OpMul, span(1, 1), span(7, top), span(7, top)}, {api.OpMul, span(1, 2), span(7, high), span(0, top)},
		{api.OpUdiv, span(5, top), span(1, 2), span(2, top)}, {api.OpUdiv, span(top, top), span(0, 0), span(0, top)}, {api.OpUrem, span(5, 9), span(10, top), span(5, 9)}, {api.OpUrem, span(5, 10), span(10, top), span(0, 10)}, {api.OpUrem, span(5, 10), span(0, 3), span(0, 10)}, {api.OpUrem, span(5, 10), span(1, 3), span(0, 2)},
		{api.OpShl, span(1, 1), span(63, 63), span(high, high)}, {api.OpShl, span(1, 2), span(63, 63), span(0, top)}, {api.OpShl, span(0, top), span(64, 64), span(0, 0)}, {api.OpShl, span(0, top), span(high, high), span(0, 0)}, {api.OpShl, span(0, top), span(0, 0), span(0, top)}, {api.OpShl, span(1, 1), span(1, 2), span(0, top)},
		{api.OpLshr, span(high, top), span(63, 63), span(1, 1)}, {api.OpLshr, span(high, top), span(64, 64), span(0, 0)}, {api.OpLshr, span(high, top), span(0, 1), span(0, top)}, {api.OpAshr, span(5, high-1), span(2, 2), span(1, 1<<61-1)}, {api.OpAshr, span(5, high), span(2, 2), span(0, top)}, {api.OpAshr, span(high, high), span(2, 2), span(0, top)}, {api.OpAshr, span(5, 9), span(top, top), span(0, 0)}, {api.OpAshr, span(5, 9), span(0, 1), span(0, 9)},
		{api.OpOr, span(5, high), span(9, 9), span(9, top)}, {api.OpXor, span(5, 5), span(0, 0), span(0, 7)}, {api.OpXor, span(0, 0), span(0, 0), span(0, 0)}, {api.OpOr, span(0, 0), span(0, 0), span(0, 0)}, {api.OpSlt, span(high, top), span(0, 5), span(0, 1)}, {api.OpSlt, span(high, high), span(top, top), span(1, 1)}, {api.OpSlt, span(0, 3), span(4, high-1), span(1, 1)}, {api.OpSlt, span(0, 3), span(4, high), span(0, 1)}, {api.OpUlt, span(0, 3), span(4, high), span(1, 1)},
	} {
		if r := (call{c.op, 0, 0, two, []api.Range{c.a, c.b}}).apply(t); r != c.want {
			t.Errorf("case %d: %v, not %v", i, r, c.want)
		}
	}
}

// TestApplyErrors checks that Apply has the errors of chapter 12, in the same order (P13.3).
func TestApplyErrors(t *testing.T) {
	two := make([]api.Range, 2)
	for i, c := range []struct {
		call
		want api.Errno
	}{
		{call{api.OpAdd, 0, 0, []int{8, 8}, two[:1]}, api.ErrOp}, {call{api.OpAdd, 0, 0, []int{8}, two}, api.ErrOp}, {call{api.OpAdd, 0, 0, nil, two}, api.ErrOp}, {call{api.OpAdd, 0, 0, []int{8, 4}, nil}, api.ErrOp}, {call{api.OpVar, 65, 0, nil, two[:1]}, api.ErrOp}, {call{api.OpVar, 8, 0, []int{8}, nil}, api.ErrOp},
		{call{0, 8, 0, nil, nil}, api.ErrOp}, {call{-1, 8, 0, nil, nil}, api.ErrOp}, {call{27, 8, 0, []int{8, 8}, two}, api.ErrOp}, {call{api.OpAdd, 0, 0, []int{8}, two[:1]}, api.ErrOp}, {call{api.OpNot, 0, 0, []int{65, 65}, two}, api.ErrOp}, {call{api.OpConst, 8, 0, []int{8}, two[:1]}, api.ErrOp},
		{call{api.OpAdd, 0, 0, []int{8, 4}, two}, api.ErrWidth}, {call{api.OpNot, 0, 0, []int{65}, two[:1]}, api.ErrWidth}, {call{api.OpNot, 0, 0, []int{-1}, two[:1]}, api.ErrWidth}, {call{api.OpVar, -1, 0, nil, nil}, api.ErrWidth}, {call{api.OpConst, 4, 16, nil, nil}, api.ErrWidth}, {call{api.OpExtract, 4, 5, []int{8}, two[:1]}, api.ErrWidth}, {call{api.OpZext, 4, 0, []int{8}, two[:1]}, api.ErrWidth}, {call{api.OpConcat, 0, 0, []int{60, 5}, two}, api.ErrWidth},
		{call{api.OpHole, 8, 0, nil, nil}, api.ErrOp}, {call{api.OpNum, 8, 0, nil, nil}, api.ErrOp}, {call{api.OpEval, 8, 0, []int{8}, two[:1]}, api.ErrOp}, {call{api.OpHole, 0, 0, nil, nil}, api.ErrOp}, {call{api.OpNum, 0, 0, nil, nil}, api.ErrOp}, {call{api.OpEval, 0, 0, []int{0}, two[:1]}, api.ErrOp}, {call{api.OpHole, 65, 0, nil, nil}, api.ErrWidth}, {call{api.OpEval, 8, 0, []int{65}, two[:1]}, api.ErrWidth},
		{call{api.OpVar, 0, 0, nil, nil}, api.ErrWidth}, {call{api.OpConst, 0, 0, nil, nil}, api.ErrWidth}, {call{api.OpNot, 0, 0, []int{0}, two[:1]}, api.ErrWidth}, {call{api.OpAdd, 8, 0, []int{0, 0}, two}, api.ErrWidth}, {call{api.OpEq, 0, 0, []int{0, 0}, two}, api.ErrWidth}, {call{api.OpIte, 0, 0, []int{1, 0, 0}, make([]api.Range, 3)}, api.ErrWidth},
	} {
		if r, e := ranges.Apply(c.op, c.width, c.val, c.widths, c.args); r != (api.Range{}) || e != c.want {
			t.Errorf("case %d: %v, %d, not %d", i, r, e, c.want)
		}
	}
	args := []api.Range{span(0, 16), span(0, 3)}
	if r, e := ranges.Apply(api.OpAnd, 0, 0, []int{4, 4}, args); r != span(0, 3) || e != api.OK || args[0].Hi != 16 {
		t.Error("the arguments are changed:", args, r, e)
	}
}
