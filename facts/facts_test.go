package facts_test

import (
	"math"
	"slices"
	"testing"

	"saturate/api"
	"saturate/bits"
	"saturate/facts"
	"saturate/known"
	"saturate/ranges"
)

// of returns facts that need not be valid.
func of(w int, zeros, ones, lo, hi uint64) api.Facts {
	return api.Facts{Width: w, Known: api.Known{Zeros: zeros, Ones: ones}, Range: api.Range{Lo: lo, Hi: hi}}
}

// pairs returns all pairs of valid elements of a small width.
func pairs(w int) []api.Facts {
	var list []api.Facts
	for zeros := range uint64(1) << w {
		for ones := range uint64(1) << w {
			for hi := range uint64(1) << w {
				for lo := range hi + 1 {
					if zeros&ones == 0 {
						list = append(list, of(w, zeros, ones, lo, hi))
					}
				}
			}
		}
	}
	return list
}

// valid returns all valid facts of a small width.
func valid(w int) []api.Facts {
	return slices.DeleteFunc(pairs(w), func(f api.Facts) bool { return !wantValid(f) })
}

// broken returns facts of which at least one element is not valid.
func broken(w int) []api.Facts {
	return []api.Facts{of(w, 1, 1, 0, 0), of(w, 0, 2<<(w-1), 0, 1), of(w, 2<<(w-1), 0, 1, 1), of(w, 0, 1, 1, 0), of(w, 1, 0, 0, 2<<(w-1)), of(w, 0, 0, 5<<w, 5<<w), of(w, 1, 1, 1, 0), of(w, math.MaxUint64, math.MaxUint64, math.MaxUint64, 0)}
}

// values returns the values that facts with valid elements of a small width contain.
func values(f api.Facts) []uint64 {
	var list []uint64
	for x := f.Range.Lo; x <= f.Range.Hi; x++ {
		if x&f.Known.Zeros == 0 && x&f.Known.Ones == f.Known.Ones {
			list = append(list, x)
		}
	}
	return list
}

// wantStep does a reduction step bit by bit. The elements of f are valid.
func wantStep(f api.Facts) (api.Facts, bool) {
	mask := bits.Mask(f.Width)
	f.Range.Lo = max(f.Range.Lo, f.Known.Ones)
	f.Range.Hi = min(f.Range.Hi, mask-f.Known.Zeros)
	if f.Range.Lo > f.Range.Hi {
		return f, false
	}
	for i := f.Width - 1; i >= 0 && f.Range.Lo>>i&1 == f.Range.Hi>>i&1; i-- {
		if f.Range.Lo>>i&1 == 1 {
			f.Known.Ones |= 1 << i
		} else {
			f.Known.Zeros |= 1 << i
		}
	}
	return f, f.Known.Zeros&f.Known.Ones == 0
}

// wantReduce does as many reduction steps as can matter.
func wantReduce(f api.Facts) (api.Facts, bool) {
	top := facts.Top(f.Width)
	for range 2*f.Width + 2 {
		next, ok := wantStep(f)
		if !ok {
			return top, false
		}
		f = next
	}
	return f, true
}

// wantValid reports whether facts with valid elements are valid.
func wantValid(f api.Facts) bool {
	next, ok := wantStep(f)
	return ok && next == f
}

// sane returns the facts that an argument stands for.
func sane(f api.Facts) api.Facts {
	if !facts.Valid(f) {
		return facts.Top(f.Width)
	}
	return f
}

// TestTopConst checks P14.1 for Top and Const, whose width is clamped.
func TestTopConst(t *testing.T) {
	for w, width := range map[int]int{1: 1, 4: 4, 63: 63, 64: 64, 0: 1, -1: 1, math.MinInt: 1, 65: 64, math.MaxInt: 64} {
		if f := facts.Top(w); f != of(width, 0, 0, 0, bits.Mask(width)) || !facts.Valid(f) {
			t.Errorf("Top(%d) is %v", w, f)
		}
		for _, x := range []uint64{0, 1, 2, 5, 15, 16, 17, 1<<63 - 1, 1 << 63, math.MaxUint64} {
			val := bits.Cut(width, x)
			if f := facts.Const(w, x); f != of(width, bits.Mask(width)-val, val, val, val) || !facts.Valid(f) {
				t.Errorf("Const(%d, %d) is %v", w, x, f)
			}
		}
	}
}

// TestValid checks P14.1 for Valid.
func TestValid(t *testing.T) {
	empty := 0
	for w := 1; w <= 4; w++ {
		for _, f := range pairs(w) {
			if facts.Valid(f) != wantValid(f) {
				t.Fatalf("Valid of %v is not %v", f, wantValid(f))
			}
			if facts.Valid(f) && len(values(f)) == 0 {
				empty++
			}
			for _, width := range []int{0, -1, -w, 65, 64 + w, math.MinInt, math.MaxInt} {
				f.Width = width
				if facts.Valid(f) {
					t.Fatalf("%v is valid", f)
				}
			}
		}
		for _, f := range broken(w) {
			if facts.Valid(f) {
				t.Errorf("%v is valid", f)
			}
		}
	}
	if empty == 0 {
		t.Error("no valid facts that contain no value")
	}
	for i, c := range []struct {
		f    api.Facts
		want bool
	}{
		{of(64, 0, 0, 0, math.MaxUint64), true}, {of(64, 0, 1<<63, 1<<63, math.MaxUint64), true}, {of(64, 0, 0, 1<<63, math.MaxUint64), false}, {of(64, 0, 1<<63, 0, math.MaxUint64), false}, {of(64, 1<<63, 0, 0, 1<<63-1), true}, {of(64, 0, 0, 1<<63-1, 1<<63), true}, {of(64, math.MaxUint64, 0, 0, 0), true}, {of(64, 0, math.MaxUint64, math.MaxUint64, math.MaxUint64), true}, {of(63, 0, 0, 0, math.MaxUint64), false}, {of(63, 0, 0, 0, 1<<63-1), true}, {api.Facts{}, false},
		{of(8, 240, 0, 0, 15), true}, {of(8, 240, 0, 0, 14), true}, {of(8, 240, 1, 1, 15), true}, {of(8, 240, 1, 0, 15), false}, {of(8, 0, 0, 0, 15), false}, {of(8, 240, 0, 0, 255), false}, {of(4, 9, 2, 3, 4), true},
	} {
		if facts.Valid(c.f) != c.want {
			t.Errorf("case %d: Valid of %v", i, c.f)
		}
	}
}

// TestHasSingle checks P14.1 for Has and Single.
func TestHasSingle(t *testing.T) {
	for w := 1; w <= 3; w++ {
		for _, f := range append(pairs(w), broken(w)...) {
			contained := values(sane(f))
			for x := range uint64(4) << w {
				if facts.Has(f, x) != slices.Contains(contained, bits.Cut(w, x)) {
					t.Fatalf("Has(%v, %d)", f, x)
				}
			}
			// In valid facts, either both domains determine the value, or none does.
			x, ok := facts.Single(f)
			_, first := known.Single(w, sane(f).Known)
			y, second := ranges.Single(w, sane(f).Range)
			if ok != (first && second) || first != second || x != y {
				t.Fatalf("Single of %v is %d, %v", f, x, ok)
			}
			if ok && f != facts.Const(w, x) {
				t.Fatalf("Single of %v is %d", f, x)
			}
		}
	}
	for _, x := range []uint64{0, 1, 1 << 63, math.MaxUint64} {
		if y, ok := facts.Single(facts.Const(64, x)); y != x || !ok || !facts.Has(facts.Const(64, x), x) || facts.Has(facts.Const(64, x), x+1) {
			t.Error("width 64:", x, y, ok)
		}
		if y, ok := facts.Single(of(65, 0, 0, x, x)); y != 0 || ok || !facts.Has(of(65, 0, 0, x, x), x+1) {
			t.Error("no valid width:", x, y, ok)
		}
	}
	if !facts.Has(of(0, 1, 0, 0, 0), 1) || !facts.Has(of(-3, 0, 0, 0, 0), 2) || facts.Has(facts.Const(1, 1), 4) || !facts.Has(facts.Const(1, 1), 5) {
		t.Error("Has with other widths")
	}
}

// TestLeq checks P14.1 for Leq.
func TestLeq(t *testing.T) {
	for w := 1; w <= 2; w++ {
		list := append(append(pairs(w), broken(w)...), facts.Top(w+1), facts.Const(w+1, 1))
		for _, a := range list {
			for _, b := range list {
				x, y := sane(a), sane(b)
				bitsLess := y.Known.Zeros&^x.Known.Zeros == 0 && y.Known.Ones&^x.Known.Ones == 0
				want := x.Width == y.Width && bitsLess && x.Range.Lo >= y.Range.Lo && x.Range.Hi <= y.Range.Hi
				if facts.Leq(a, b) != want {
					t.Fatalf("Leq(%v, %v) is not %v", a, b, want)
				}
			}
		}
	}
	// The Width counts after an argument that is not valid has been replaced.
	if !facts.Leq(of(0, 0, 0, 0, 0), of(1, 0, 0, 1, 1)) || !facts.Leq(facts.Const(64, 5), of(99, 0, 0, 0, 1)) || facts.Leq(facts.Top(64), of(63, 0, 0, 0, 0)) || facts.Leq(of(65, 0, 0, 0, 0), facts.Const(64, 0)) {
		t.Error("other widths")
	}
	// Each domain alone decides against it.
	if facts.Leq(of(4, 0, 0, 3, 12), of(4, 0, 0, 3, 11)) || facts.Leq(of(4, 0, 0, 2, 13), of(4, 1, 0, 2, 14)) || !facts.Leq(of(4, 1, 0, 2, 12), of(4, 0, 0, 2, 13)) {
		t.Error("examples")
	}
}

// TestReduce checks P14.2 for Reduce, and its properties of P14.5.
func TestReduce(t *testing.T) {
	long := 0
	for w := 1; w <= 4; w++ {
		for _, f := range pairs(w) {
			want, wantOk := wantReduce(f)
			r, ok := facts.Reduce(f)
			if r != want || ok != wantOk {
				t.Fatalf("Reduce of %v is %v, %v, not %v, %v", f, r, ok, want, wantOk)
			}
			if !facts.Valid(r) || ok && !slices.Equal(values(f), values(r)) || !ok && len(values(f)) > 0 {
				t.Fatalf("Reduce of %v is %v, %v", f, r, ok)
			}
			if again, okAgain := facts.Reduce(r); again != r || !okAgain {
				t.Fatalf("Reduce of %v is not idempotent", f)
			}
			if once, _ := wantStep(f); ok && once != r {
				long++
			}
		}
	}
	if long == 0 {
		t.Error("one step is always enough")
	}
}

// TestReduceElements checks that Reduce replaces single elements that are not valid (P14.2).
func TestReduceElements(t *testing.T) {
	for i, c := range []struct {
		f, want api.Facts
		ok      bool
	}{
		{of(4, 1, 1, 4, 7), of(4, 8, 4, 4, 7), true}, {of(4, 1, 1, 0, 15), facts.Top(4), true}, {of(4, 24, 6, 0, 15), facts.Top(4), true}, {of(4, 16, 0, 4, 7), of(4, 8, 4, 4, 7), true}, {of(4, 12, 0, 5, 4), of(4, 12, 0, 0, 3), true}, {of(4, 0, 8, 0, 16), of(4, 0, 8, 8, 15), true}, {of(4, 3, 3, 2, 1), facts.Top(4), true},
		{of(4, 0, 8, 2, 7), facts.Top(4), false}, {of(4, 8, 0, 8, 9), facts.Top(4), false}, {of(4, 1, 0, 5, 5), facts.Top(4), false}, {of(4, 0, 2, 4, 5), facts.Top(4), false}, {of(4, 0, 0, 9, 11), of(4, 4, 8, 9, 11), true}, {of(4, 1, 2, 3, 4), of(4, 9, 2, 3, 4), true},
		// The width is clamped, and the elements are those of this width.
		{of(0, 0, 1, 0, 1), facts.Const(1, 1), true}, {of(-7, 0, 2, 0, 0), facts.Const(1, 0), true}, {of(65, 0, 1<<63, 0, math.MaxUint64), of(64, 0, 1<<63, 1<<63, math.MaxUint64), true}, {of(math.MaxInt, 0, 0, 7, 7), facts.Const(64, 7), true}, {of(math.MinInt, 1, 0, 1, 1), facts.Top(1), false}, {api.Facts{}, facts.Const(1, 0), true},
		{of(64, 0, 0, 1<<63, 1<<63), facts.Const(64, 1<<63), true}, {of(64, 1<<63, 0, 1<<63-1, math.MaxUint64), facts.Const(64, 1<<63-1), true}, {of(64, 1<<63, 0, 1<<63, math.MaxUint64), facts.Top(64), false}, {of(63, 0, 0, 0, 1<<63), facts.Top(63), true},
		// Several steps: a new bit makes the range smaller, which gives another bit.
		{of(4, 1, 0, 9, 11), of(4, 5, 8, 9, 10), true}, {of(4, 1, 4, 11, 13), facts.Const(4, 12), true}, {of(64, 1<<60, 1<<62, 11<<60, 13<<60), of(64, 3<<60, 3<<62, 12<<60, 13<<60-1), true},
		{of(8, 0, 0x55, 0, 0x56), of(8, 0xa8, 0x55, 0x55, 0x56), true},
	} {
		if r, ok := facts.Reduce(c.f); r != c.want || ok != c.ok {
			t.Errorf("case %d: Reduce of %v is %v, %v, not %v, %v", i, c.f, r, ok, c.want, c.ok)
		}
	}
}

// TestMeetJoin checks P14.2 for Meet and Join, and P14.5 for Meet.
func TestMeetJoin(t *testing.T) {
	for w := 1; w <= 3; w++ {
		list := append(valid(w), broken(w)...)
		for _, a := range list {
			for _, b := range list {
				x, y := sane(a), sane(b)
				k, okBits := known.Meet(w, x.Known, y.Known)
				r, okRange := ranges.Meet(w, x.Range, y.Range)
				want, wantOk := facts.Top(w), false
				if okBits && okRange {
					want, wantOk = wantReduce(api.Facts{Width: w, Known: k, Range: r})
				}
				m, ok := facts.Meet(a, b)
				if m != want || ok != wantOk {
					t.Fatalf("Meet(%v, %v) is %v, %v, not %v, %v", a, b, m, ok, want, wantOk)
				}
				common := slices.DeleteFunc(values(x), func(v uint64) bool { return !facts.Has(y, v) })
				if !facts.Valid(m) || ok && !slices.Equal(values(m), common) || !ok && len(common) > 0 {
					t.Fatalf("Meet(%v, %v) is %v, %v", a, b, m, ok)
				}
				j, e := facts.Join(a, b)
				want, _ = wantReduce(api.Facts{Width: w, Known: known.Join(w, x.Known, y.Known), Range: ranges.Join(w, x.Range, y.Range)})
				if j != want || e != api.OK || !facts.Valid(j) || !facts.Leq(a, j) || !facts.Leq(b, j) {
					t.Fatalf("Join(%v, %v) is %v, %d, not %v", a, b, j, e, want)
				}
			}
		}
	}
}

// TestMeetJoinWidths checks P14.2 for facts of different widths.
func TestMeetJoinWidths(t *testing.T) {
	for i, c := range []struct {
		a, b api.Facts
		same bool
	}{
		{facts.Const(4, 3), facts.Const(5, 3), false}, {facts.Top(64), facts.Top(63), false}, {facts.Top(1), of(0, 0, 0, 0, 0), true}, {of(-4, 0, 0, 0, 0), of(0, 0, 0, 1, 0), true}, {of(99, 0, 0, 0, 0), facts.Const(64, 9), true}, {of(99, 0, 0, 0, 0), facts.Const(63, 9), false}, {facts.Const(2, 1), of(0, 0, 0, 0, 0), false},
	} {
		m, ok := facts.Meet(c.a, c.b)
		j, e := facts.Join(c.a, c.b)
		if !c.same {
			if top := facts.Top(c.a.Width); m != top || ok || j != (api.Facts{}) || e != api.ErrWidth {
				t.Errorf("case %d: %v, %v, %v, %d", i, m, ok, j, e)
			}
		} else if x, y := sane(c.a), sane(c.b); !ok || !facts.Leq(m, x) || !facts.Leq(m, y) || e != api.OK || j != facts.Top(x.Width) {
			t.Errorf("case %d: %v, %v, %v, %d", i, m, ok, j, e)
		}
	}
	if m, ok := facts.Meet(facts.Const(8, 16), of(8, 240, 0, 0, 15)); m != facts.Top(8) || ok {
		t.Error("an empty Meet:", m, ok)
	}
	if m, ok := facts.Meet(of(4, 1, 0, 0, 14), of(4, 8, 1, 1, 7)); m != facts.Top(4) || ok {
		t.Error("an empty Meet of bits:", m, ok)
	}
	// Both Meets have values, but none in common.
	if m, ok := facts.Meet(of(4, 0, 2, 2, 15), of(4, 10, 4, 4, 5)); m != facts.Top(4) || ok {
		t.Error("an empty Reduce:", m, ok)
	}
	if m, ok := facts.Meet(of(4, 0, 1, 1, 15), of(4, 0, 0, 6, 8)); m != of(4, 0, 1, 6, 8) || !ok {
		t.Error("a Meet:", m, ok)
	}
}
