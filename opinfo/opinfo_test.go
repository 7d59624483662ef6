package opinfo_test

import (
	"math"
	"slices"
	"strings"
	"testing"

	"saturate/api"
	"saturate/opinfo"
)

// operatorNames begins with the name of operator 1.
var operatorNames = strings.Fields("var const not neg and or xor add sub mul udiv urem shl lshr ashr eq ult slt ite concat extract zext sext hole num eval")

// notOperators are numbers that are no operators.
var notOperators = []api.Op{api.NoOp, 27, 28, 31, 32, 64, 100, 256 + api.OpAdd, 1<<32 + api.OpAdd, -1, -8, math.MaxInt, math.MinInt}

// oneOf reports whether the name of an operator is in a list of names.
func oneOf(op api.Op, list string) bool {
	return strings.Contains(" "+list+" ", " "+operatorNames[op-1]+" ")
}

// arity returns the number of operands by the definitions.
func arity(op api.Op) int {
	switch {
	case oneOf(op, "var const hole num"):
		return 0
	case oneOf(op, "not neg extract zext sext eval"):
		return 1
	case oneOf(op, "ite"):
		return 3
	}
	return 2
}

// TestNames checks P4.1, and that Of inverts Name (P4.4).
func TestNames(t *testing.T) {
	ops := opinfo.Ops()
	if len(ops) != 26 || len(operatorNames) != 26 {
		t.Fatal(ops)
	}
	for i, name := range operatorNames {
		op := api.Op(i + 1)
		if ops[i] != op || opinfo.Name(op) != name {
			t.Errorf("operator %d is %d, %q", op, ops[i], opinfo.Name(op))
		}
		if x, ok := opinfo.Of(name); x != op || !ok {
			t.Errorf("Of(%q) is %d, %v", name, x, ok)
		}
	}
	for _, name := range []string{"", "Add", "ADD", " add", "add ", "ad", "addd", "add\x00", "noop", "nop", "8", "?", "var const"} {
		if x, ok := opinfo.Of(name); x != api.NoOp || ok {
			t.Errorf("Of(%q) is %d, %v", name, x, ok)
		}
	}
	for _, op := range notOperators {
		if name := opinfo.Name(op); name != "" {
			t.Errorf("Name(%d) is %q", op, name)
		}
	}
	if api.OpVar != 1 || opinfo.Name(api.OpAdd) != "add" || opinfo.Name(api.OpEval) != "eval" {
		t.Error("examples")
	}
}

// TestOpsIsNew checks that a caller may change the result of Ops.
func TestOpsIsNew(t *testing.T) {
	ops := opinfo.Ops()
	ops[0], ops[25] = 99, 99
	if again := opinfo.Ops(); again[0] != api.OpVar || again[25] != api.OpEval {
		t.Error(again)
	}
	if opinfo.Name(api.OpVar) != "var" || opinfo.Arity(api.OpEval) != 1 {
		t.Error("the table has changed")
	}
}

// TestKinds checks P4.2.
func TestKinds(t *testing.T) {
	for op := api.OpVar; op <= api.OpEval; op++ {
		if n := opinfo.Arity(op); n != arity(op) {
			t.Errorf("Arity(%d) is %d", op, n)
		}
		if opinfo.Commutes(op) != oneOf(op, "and or xor add mul eq") {
			t.Errorf("Commutes(%d)", op)
		}
		if opinfo.Leaf(op) != oneOf(op, "var const hole num") {
			t.Errorf("Leaf(%d)", op)
		}
		if opinfo.Pattern(op) != oneOf(op, "hole num eval") {
			t.Errorf("Pattern(%d)", op)
		}
	}
	for _, op := range notOperators {
		if opinfo.Arity(op) != -1 || opinfo.Commutes(op) || opinfo.Leaf(op) || opinfo.Pattern(op) {
			t.Errorf("%d is not an operator", op)
		}
	}
}

// isWidth reports whether w is a width or the generic one.
func isWidth(w int) bool {
	return w >= 0 && w <= 64
}

// wantWidth says what Width has to return for an operator with the right number of operands.
func wantWidth(op api.Op, width int, val uint64, args []int) (int, api.Errno) {
	result, holds := 0, false
	switch {
	case oneOf(op, "const"):
		result, holds = width, width <= 0 || width >= 64 || val <= 1<<width-1
	case oneOf(op, "var hole num"):
		result, holds = width, true
	case oneOf(op, "not neg eval"):
		result, holds = args[0], true
	case oneOf(op, "and or xor add sub mul udiv urem shl lshr ashr"):
		result, holds = args[0], args[0] == args[1]
	case oneOf(op, "eq ult slt"):
		result, holds = 1, args[0] == args[1]
	case oneOf(op, "ite"):
		result, holds = args[2], args[0] == 1 && args[1] == args[2]
	case oneOf(op, "concat"):
		result, holds = args[0]+args[1], args[0] != 0 && args[1] != 0 && args[0] <= 64-args[1]
	case oneOf(op, "extract"):
		result, holds = width, width > 0 && args[0] > 0 && width <= args[0] && val <= 64 && int(val)+width <= args[0]
	case oneOf(op, "zext sext"):
		result, holds = width, args[0] > 0 && width >= args[0] && width <= 64
	}
	if !holds || !isWidth(result) || slices.ContainsFunc(args, func(w int) bool { return !isWidth(w) }) {
		return 0, api.ErrWidth
	}
	return result, api.OK
}

// argsOf calls visit with all lists of n elements of a list.
func argsOf(n int, elements []int, visit func(args []int)) {
	if n == 0 {
		visit(nil)
		return
	}
	argsOf(n-1, elements, func(args []int) {
		for _, x := range elements {
			visit(append(slices.Clone(args), x))
		}
	})
}

var (
	someWidths = []int{math.MinInt, -64, -1, 0, 1, 2, 4, 8, 32, 33, 63, 64, 65, 128, math.MaxInt}
	someVals   = []uint64{0, 1, 2, 3, 4, 5, 7, 8, 15, 16, 31, 62, 63, 64, 65, 127, 128, 255, 256, 1<<32 - 1, 1 << 32, 1<<63 - 1, 1 << 63, math.MaxUint64 - 3, math.MaxUint64}
)

// TestWidth checks P4.3, and the bounds of results (P4.4).
func TestWidth(t *testing.T) {
	for op := api.OpVar; op <= api.OpEval; op++ {
		argsOf(arity(op), someWidths, func(args []int) {
			for _, width := range someWidths {
				for _, val := range someVals {
					w, e := opinfo.Width(op, width, val, args)
					if want, wantError := wantWidth(op, width, val, args); w != want || e != wantError {
						t.Fatalf("Width(%d, %d, %d, %v) is %d, %d, not %d, %d", op, width, val, args, w, e, want, wantError)
					}
					if !isWidth(w) || e == api.OK && w == 0 && width != 0 && !slices.Contains(args, 0) {
						t.Fatalf("Width(%d, %d, %d, %v) is %d", op, width, val, args, w)
					}
				}
			}
		})
	}
}

// TestWidthOfConstants checks the values of each width from 0 to 64, as P4.3 bounds them.
func TestWidthOfConstants(t *testing.T) {
	for width := 0; width <= 64; width++ {
		bound := uint64(1) << width // 0 for 64
		for _, val := range []uint64{0, 1, bound - 1, bound, bound + 1, math.MaxUint64} {
			fits := width == 0 || width == 64 || val < bound
			w, e := opinfo.Width(api.OpConst, width, val, nil)
			if fits != (e == api.OK) || fits && w != width || !fits && (w != 0 || e != api.ErrWidth) {
				t.Errorf("a constant %d of width %d: %d, %d", val, width, w, e)
			}
		}
	}
}

// TestWidthExtract checks each offset and width of an extraction, as P4.3 bounds them.
func TestWidthExtract(t *testing.T) {
	for from := 0; from <= 64; from++ {
		for width := 0; width <= 66; width++ {
			for low := 0; low <= 66; low++ {
				holds := from >= 1 && width >= 1 && low+width <= from
				w, e := opinfo.Width(api.OpExtract, width, uint64(low), []int{from})
				if holds != (e == api.OK) || holds && w != width || !holds && (w != 0 || e != api.ErrWidth) {
					t.Fatalf("%d bits from %d on of %d: %d, %d", width, low, from, w, e)
				}
			}
		}
	}
}

// TestWidthErrors checks that ErrOp comes before ErrWidth (P4.3).
func TestWidthErrors(t *testing.T) {
	for _, op := range notOperators {
		for n := range 5 {
			if w, e := opinfo.Width(op, 8, 0, slices.Repeat([]int{8}, n)); w != 0 || e != api.ErrOp {
				t.Errorf("Width(%d) with %d operands is %d, %d", op, n, w, e)
			}
		}
		if w, e := opinfo.Width(op, 65, 0, []int{65}); w != 0 || e != api.ErrOp {
			t.Errorf("Width(%d) is %d, %d", op, w, e)
		}
	}
	for op := api.OpVar; op <= api.OpEval; op++ {
		for n := range 6 {
			if n == arity(op) {
				continue
			}
			for _, x := range []int{-1, 0, 1, 8, 65} {
				if w, e := opinfo.Width(op, x, 1, slices.Repeat([]int{x}, n)); w != 0 || e != api.ErrOp {
					t.Errorf("Width(%d) with %d operands is %d, %d", op, n, w, e)
				}
			}
		}
	}
}

// TestWidthArguments checks that an empty slice is as good as nil, and that the widths are left alone.
func TestWidthArguments(t *testing.T) {
	if w, e := opinfo.Width(api.OpVar, 8, 0, []int{}); w != 8 || e != api.OK {
		t.Error(w, e)
	}
	args := []int{1, 8, 8}
	if w, e := opinfo.Width(api.OpIte, 0, 0, args); w != 8 || e != api.OK || !slices.Equal(args, []int{1, 8, 8}) {
		t.Error(w, e, args)
	}
	if w, e := opinfo.Width(api.OpAdd, 0, 0, []int{0, 0}); w != 0 || e != api.OK {
		t.Error("generic widths", w, e)
	}
	if w, e := opinfo.Width(api.OpAdd, 0, 0, []int{0, 8}); w != 0 || e != api.ErrWidth {
		t.Error("a generic width and another one", w, e)
	}
	if w, e := opinfo.Width(api.OpConcat, 0, 0, []int{8, 8}); w != 16 || e != api.OK {
		t.Error("concat", w, e)
	}
}

// TestConcrete checks Concrete against Width: it also rejects pattern operators and generic widths.
func TestConcrete(t *testing.T) {
	for op := api.OpVar; op <= api.OpEval; op++ {
		argsOf(arity(op), someWidths, func(args []int) {
			for _, width := range someWidths {
				for _, val := range []uint64{0, 3, math.MaxUint64} {
					want, wantError := opinfo.Width(op, width, val, args)
					if wantError == api.OK && oneOf(op, "hole num eval") {
						want, wantError = 0, api.ErrOp
					} else if wantError == api.OK && (want == 0 || slices.Contains(args, 0)) {
						want, wantError = 0, api.ErrWidth
					}
					if w, e := opinfo.Concrete(op, width, val, args); w != want || e != wantError {
						t.Fatalf("Concrete(%d, %d, %d, %v) is %d, %d, not %d, %d", op, width, val, args, w, e, want, wantError)
					}
				}
			}
		})
	}
	for _, op := range notOperators {
		if w, e := opinfo.Concrete(op, 8, 0, []int{8, 8}); w != 0 || e != api.ErrOp {
			t.Errorf("Concrete(%d) is %d, %d", op, w, e)
		}
	}
}
