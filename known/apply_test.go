package known_test

import (
	"math"
	"math/rand/v2"
	"slices"
	"testing"

	"saturate/api"
	"saturate/bits"
	"saturate/eval"
	"saturate/known"
	"saturate/opinfo"
)

// call is a call of Apply.
type call struct {
	op     api.Op
	width  int
	val    uint64
	widths []int
	args   []api.Known
}

func (c call) apply(t *testing.T) api.Known {
	t.Helper()
	k, e := known.Apply(c.op, c.width, c.val, c.widths, c.args)
	if e != api.OK {
		t.Fatalf("Apply of %s, %v: %d", opinfo.Name(c.op), c, e)
	}
	return k
}

// result returns the width of the result.
func (c call) result() int {
	r, _ := opinfo.Width(c.op, c.width, c.val, c.widths)
	return r
}

// results returns the values of the operator for all contained operand values.
func (c call) results() []uint64 {
	var list []uint64
	var visit func(words []api.Word)
	visit = func(words []api.Word) {
		i := len(words)
		if i == len(c.args) {
			x, _ := eval.Apply(c.op, c.width, c.val, words)
			list = append(list, x)
			return
		}
		for _, x := range values(c.widths[i], c.args[i]) {
			visit(append(slices.Clone(words), api.Word{Width: c.widths[i], Val: x}))
		}
	}
	visit(nil)
	return list
}

// isSingle reports whether an operand has one value only.
func (c call) isSingle(i int) bool {
	return len(values(c.widths[i], c.args[i])) == 1
}

// want returns the result by P12.4, with the smallest element where it asks for that.
func (c call) want() api.Known {
	switch c.op {
	case api.OpShl, api.OpLshr, api.OpAshr:
		if !c.isSingle(1) {
			return api.Known{}
		}
	case api.OpUdiv, api.OpUlt, api.OpSlt:
		if !c.isSingle(0) || !c.isSingle(1) {
			return api.Known{}
		}
	case api.OpUrem:
		if !c.isSingle(1) || !c.isSingle(0) && bits.Count(values(c.widths[1], c.args[1])[0]) != 1 {
			return api.Known{}
		}
	case api.OpMul:
		if !c.isSingle(0) || !c.isSingle(1) {
			return api.Known{Zeros: bits.Mask(min(c.lowZeros(0)+c.lowZeros(1), c.result())) * uint64(min(1, c.lowZeros(0)+c.lowZeros(1)))}
		}
	}
	return hull(c.result(), c.results())
}

// lowZeros returns how many low bits of an operand are known to be 0.
func (c call) lowZeros(i int) int {
	if !known.Valid(c.widths[i], c.args[i]) {
		return 0
	}
	n := 0
	for c.args[i].Zeros>>n&1 == 1 {
		n++
	}
	return n
}

// calls calls visit with calls of all operators for all elements of small widths.
func calls(most int, elements func(w int) []api.Known, visit func(c call)) {
	for w := 1; w <= most; w++ {
		for _, a := range elements(w) {
			visit(call{api.OpNot, 0, 0, []int{w}, []api.Known{a}})
			visit(call{api.OpNeg, 0, 0, []int{w}, []api.Known{a}})
			for r := w; r <= w+2; r++ {
				visit(call{api.OpZext, r, 0, []int{w}, []api.Known{a}})
				visit(call{api.OpSext, r, 0, []int{w}, []api.Known{a}})
			}
			for r := 1; r <= w; r++ {
				for low := range w - r + 1 {
					visit(call{api.OpExtract, r, uint64(low), []int{w}, []api.Known{a}})
				}
			}
			for _, b := range elements(w) {
				for op := api.OpAnd; op <= api.OpSlt; op++ {
					visit(call{op, 0, 0, []int{w, w}, []api.Known{a, b}})
				}
				for _, c := range elements(1) {
					if w <= 2 {
						visit(call{api.OpIte, 0, 0, []int{1, w, w}, []api.Known{c, a, b}})
					}
				}
			}
			for v := 1; v <= 2; v++ {
				for _, b := range elements(v) {
					visit(call{api.OpConcat, 0, 0, []int{w, v}, []api.Known{a, b}})
				}
			}
		}
	}
}

// TestApply checks P12.4 for all elements of small widths, and those that are not valid.
func TestApply(t *testing.T) {
	calls(3, arguments, func(c call) {
		if k, want := c.apply(t), c.want(); k != want {
			t.Fatalf("%s of %v is %v, not %v", opinfo.Name(c.op), c, k, want)
		}
	})
	for _, w := range []int{1, 4, 63, 64} {
		if k := (call{api.OpVar, w, 99, nil, nil}).apply(t); k != (api.Known{}) {
			t.Error("a variable:", k)
		}
		if k := (call{api.OpConst, w, 1, nil, nil}).apply(t); k != known.Const(w, 1) {
			t.Error("a constant:", k)
		}
	}
}

// TestSound checks the soundness of P12.5 for all elements of small widths.
func TestSound(t *testing.T) {
	calls(3, elements, func(c call) {
		k := c.apply(t)
		if !known.Valid(c.result(), k) {
			t.Fatalf("%s of %v is %v", opinfo.Name(c.op), c, k)
		}
		for _, x := range c.results() {
			if !known.Has(c.result(), k, x) {
				t.Fatalf("%s of %v is %v, without %d", opinfo.Name(c.op), c, k, x)
			}
		}
	})
}

// TestMonotone checks that Apply is monotone (P12.5): knowing less of an operand does not give more of the result.
func TestMonotone(t *testing.T) {
	calls(3, elements, func(c call) {
		k := c.apply(t)
		for i, arg := range c.args {
			for bit := range c.widths[i] {
				weaker := c
				weaker.args = slices.Clone(c.args)
				weaker.args[i] = api.Known{Zeros: arg.Zeros &^ (1 << bit), Ones: arg.Ones &^ (1 << bit)}
				if j := weaker.apply(t); !known.Leq(c.result(), k, j) {
					t.Fatalf("%s of %v is %v, but of %v it is %v", opinfo.Name(c.op), c, k, weaker, j)
				}
			}
		}
	})
}

// randomCall returns a call with any widths, and the value of the operator for
// operand values that the operands contain.
func randomCall(r *rand.Rand) (call, uint64) {
	op := api.OpNot + api.Op(r.IntN(int(api.OpSext-api.OpNot)+1))
	w := 1 + r.IntN(64)
	c := call{op: op, widths: slices.Repeat([]int{w}, opinfo.Arity(op))}
	switch op {
	case api.OpIte:
		c.widths[0] = 1
	case api.OpConcat:
		c.widths[0] = 1 + r.IntN(63)
		c.widths[1] = 1 + r.IntN(64-c.widths[0])
	case api.OpExtract:
		c.val = uint64(r.IntN(w))
		c.width = 1 + r.IntN(w-int(c.val))
	case api.OpZext, api.OpSext:
		c.width = w + r.IntN(65-w)
	}
	var words []api.Word
	for _, width := range c.widths {
		k, x := random(r, width)
		if r.IntN(3) == 0 { // an amount to shift by, or a power of two
			x = bits.Cut(width, 1<<r.IntN(7))
			k = known.Const(width, x)
		}
		c.args = append(c.args, k)
		words = append(words, api.Word{Width: width, Val: x})
	}
	x, _ := eval.Apply(c.op, c.width, c.val, words)
	return c, x
}

// TestWide checks soundness (P12.5), and that single operands have a single result (P12.4), for all widths.
func TestWide(t *testing.T) {
	r := rand.New(rand.NewPCG(12, 4))
	for range 100000 {
		c, x := randomCall(r)
		k := c.apply(t)
		if !known.Valid(c.result(), k) || !known.Has(c.result(), k, x) {
			t.Fatalf("%s of %v is %v, without %d", opinfo.Name(c.op), c, k, x)
		}
		single := true
		for i, arg := range c.args {
			single = single && known.Size(c.widths[i], arg) == 0
		}
		if single && k != known.Const(c.result(), x) {
			t.Fatalf("%s of %v is %v, not only %d", opinfo.Name(c.op), c, k, x)
		}
	}
}

// TestWideExamples checks results of P12.4 with width 64.
func TestWideExamples(t *testing.T) {
	all, low := uint64(math.MaxUint64), uint64(1<<32-1)
	const64 := func(x uint64) api.Known { return known.Const(64, x) }
	for i, c := range []struct {
		op   api.Op
		a, b api.Known
		want api.Known
	}{
		{api.OpMul, api.Known{Zeros: low}, api.Known{Zeros: low}, const64(0)}, {api.OpMul, api.Known{Zeros: low}, api.Known{Zeros: low >> 1}, api.Known{Zeros: all >> 1}}, {api.OpMul, const64(0), api.Known{}, const64(0)}, {api.OpMul, const64(4), api.Known{Ones: 1}, api.Known{Zeros: 3}}, {api.OpMul, api.Known{Zeros: all << 1}, api.Known{}, api.Known{}}, {api.OpMul, const64(all), const64(all), const64(1)},
		{api.OpShl, api.Known{Ones: 1}, const64(63), api.Known{Zeros: all >> 1, Ones: 1 << 63}}, {api.OpShl, api.Known{Ones: 1}, const64(64), const64(0)}, {api.OpShl, api.Known{Ones: 1}, const64(1 << 63), const64(0)}, {api.OpShl, api.Known{Ones: 3}, const64(0), api.Known{Ones: 3}}, {api.OpShl, const64(1), api.Known{Zeros: 1}, api.Known{}},
		{api.OpLshr, api.Known{Ones: 1 << 63}, const64(63), const64(1)}, {api.OpLshr, api.Known{Ones: 1 << 63}, const64(all), const64(0)}, {api.OpAshr, api.Known{Ones: 1 << 63}, const64(65), const64(all)}, {api.OpAshr, api.Known{Zeros: 1 << 63}, const64(all), const64(0)}, {api.OpAshr, api.Known{Ones: 1}, const64(64), api.Known{}}, {api.OpAshr, api.Known{Ones: 1 << 63}, const64(3), api.Known{Ones: 15 << 60}},
		{api.OpUrem, api.Known{Ones: 1<<63 | 5}, const64(1 << 63), api.Known{Zeros: 1 << 63, Ones: 5}}, {api.OpUrem, api.Known{Ones: 5}, const64(1), const64(0)}, {api.OpUrem, api.Known{Ones: 5}, const64(0), api.Known{}}, {api.OpUrem, const64(5), const64(0), const64(5)}, {api.OpUrem, api.Known{Ones: 5}, const64(3), api.Known{}}, {api.OpUrem, const64(9), const64(7), const64(2)}, {api.OpUdiv, const64(9), const64(0), const64(all)}, {api.OpUdiv, api.Known{Zeros: 1}, const64(2), api.Known{}},
		{api.OpNeg, api.Known{Zeros: 3}, api.Known{}, api.Known{Zeros: 3}}, {api.OpNot, api.Known{Zeros: 1 << 63, Ones: 1}, api.Known{}, api.Known{Zeros: 1, Ones: 1 << 63}},
	} {
		args := []api.Known{c.a, c.b}[:opinfo.Arity(c.op)]
		if k := (call{c.op, 0, 0, []int{64, 64}[:len(args)], args}).apply(t); k != c.want {
			t.Errorf("case %d: %v, not %v", i, k, c.want)
		}
	}
	for i, c := range []struct {
		call
		want api.Known
	}{
		{call{api.OpConcat, 0, 0, []int{63, 1}, []api.Known{{Zeros: 1, Ones: 1 << 62}, {Ones: 1}}}, api.Known{Zeros: 2, Ones: 1<<63 | 1}}, {call{api.OpConcat, 0, 0, []int{1, 63}, []api.Known{{Ones: 1}, {Zeros: 1 << 62}}}, api.Known{Zeros: 1 << 62, Ones: 1 << 63}}, {call{api.OpExtract, 1, 63, []int{64}, []api.Known{{Ones: 1 << 63}}}, api.Known{Ones: 1}}, {call{api.OpExtract, 64, 0, []int{64}, []api.Known{{Zeros: 1 << 63}}}, api.Known{Zeros: 1 << 63}},
		{call{api.OpZext, 64, 0, []int{1}, []api.Known{{}}}, api.Known{Zeros: all - 1}}, {call{api.OpZext, 64, 0, []int{64}, []api.Known{{}}}, api.Known{}}, {call{api.OpSext, 64, 0, []int{1}, []api.Known{{Ones: 1}}}, api.Known{Ones: all}}, {call{api.OpSext, 64, 0, []int{63}, []api.Known{{Zeros: 1 << 62}}}, api.Known{Zeros: 3 << 62}}, {call{api.OpSext, 64, 0, []int{8}, []api.Known{{Zeros: 1}}}, api.Known{Zeros: 1}},
		{call{api.OpEq, 0, 0, []int{64, 64}, []api.Known{{Zeros: 1 << 63}, {Ones: 1 << 63}}}, api.Known{Zeros: 1}}, {call{api.OpEq, 0, 0, []int{64, 64}, []api.Known{{Ones: 1 << 63}, {Ones: 1 << 63}}}, api.Known{}}, {call{api.OpEq, 0, 0, []int{64, 64}, []api.Known{const64(all), const64(all)}}, api.Known{Ones: 1}}, {call{api.OpSlt, 0, 0, []int{64, 64}, []api.Known{const64(all), const64(0)}}, api.Known{Ones: 1}}, {call{api.OpUlt, 0, 0, []int{64, 64}, []api.Known{const64(all), const64(0)}}, api.Known{Zeros: 1}},
	} {
		if k := c.apply(t); k != c.want {
			t.Errorf("case %d of other widths: %v, not %v", i, k, c.want)
		}
	}
}

// TestApplyErrors checks the errors of P12.4, and their order.
func TestApplyErrors(t *testing.T) {
	two := make([]api.Known, 2)
	for i, c := range []struct {
		call
		want api.Errno
	}{
		{call{api.OpAdd, 0, 0, []int{8, 8}, two[:1]}, api.ErrOp}, {call{api.OpAdd, 0, 0, []int{8}, two}, api.ErrOp}, {call{api.OpAdd, 0, 0, nil, two}, api.ErrOp}, {call{api.OpAdd, 0, 0, []int{8, 4}, nil}, api.ErrOp}, {call{api.OpVar, 65, 0, nil, two[:1]}, api.ErrOp}, {call{api.OpVar, 8, 0, []int{8}, nil}, api.ErrOp},
		{call{0, 8, 0, nil, nil}, api.ErrOp}, {call{-1, 8, 0, nil, nil}, api.ErrOp}, {call{27, 8, 0, []int{8, 8}, two}, api.ErrOp}, {call{api.OpAdd, 0, 0, []int{8}, two[:1]}, api.ErrOp}, {call{api.OpNot, 0, 0, []int{65, 65}, two}, api.ErrOp}, {call{api.OpConst, 8, 0, []int{8}, two[:1]}, api.ErrOp},
		{call{api.OpAdd, 0, 0, []int{8, 4}, two}, api.ErrWidth}, {call{api.OpNot, 0, 0, []int{65}, two[:1]}, api.ErrWidth}, {call{api.OpNot, 0, 0, []int{-1}, two[:1]}, api.ErrWidth}, {call{api.OpVar, -1, 0, nil, nil}, api.ErrWidth}, {call{api.OpConst, 4, 16, nil, nil}, api.ErrWidth}, {call{api.OpExtract, 4, 5, []int{8}, two[:1]}, api.ErrWidth}, {call{api.OpZext, 4, 0, []int{8}, two[:1]}, api.ErrWidth}, {call{api.OpConcat, 0, 0, []int{60, 5}, two}, api.ErrWidth},
		{call{api.OpHole, 8, 0, nil, nil}, api.ErrOp}, {call{api.OpNum, 8, 0, nil, nil}, api.ErrOp}, {call{api.OpEval, 8, 0, []int{8}, two[:1]}, api.ErrOp}, {call{api.OpHole, 0, 0, nil, nil}, api.ErrOp}, {call{api.OpNum, 0, 0, nil, nil}, api.ErrOp}, {call{api.OpEval, 0, 0, []int{0}, two[:1]}, api.ErrOp}, {call{api.OpHole, 65, 0, nil, nil}, api.ErrWidth}, {call{api.OpEval, 8, 0, []int{65}, two[:1]}, api.ErrWidth},
		{call{api.OpVar, 0, 0, nil, nil}, api.ErrWidth}, {call{api.OpConst, 0, 0, nil, nil}, api.ErrWidth}, {call{api.OpNot, 0, 0, []int{0}, two[:1]}, api.ErrWidth}, {call{api.OpAdd, 8, 0, []int{0, 0}, two}, api.ErrWidth}, {call{api.OpEq, 0, 0, []int{0, 0}, two}, api.ErrWidth}, {call{api.OpIte, 0, 0, []int{1, 0, 0}, make([]api.Known, 3)}, api.ErrWidth},
	} {
		if k, e := known.Apply(c.op, c.width, c.val, c.widths, c.args); k != (api.Known{}) || e != c.want {
			t.Errorf("case %d: %v, %d, not %d", i, k, e, c.want)
		}
	}
	args := []api.Known{{Zeros: 16}, {Zeros: 1}}
	if k, e := known.Apply(api.OpAnd, 0, 0, []int{4, 4}, args); k != (api.Known{Zeros: 1}) || e != api.OK || args[0].Zeros != 16 {
		t.Error("the arguments are changed:", args, k, e)
	}
}
