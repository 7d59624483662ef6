package ranges_test

import (
	"math"
	"math/rand/v2"
	"slices"
	"testing"

	"saturate/api"
	"saturate/bits"
	"saturate/ranges"
)

func span(lo, hi uint64) api.Range {
	return api.Range{Lo: lo, Hi: hi}
}

// elements returns all valid elements of a small width.
func elements(w int) []api.Range {
	var list []api.Range
	for hi := range uint64(1) << w {
		for lo := range hi + 1 {
			list = append(list, span(lo, hi))
		}
	}
	return list
}

// arguments returns all elements of a small width, and some that are not valid.
func arguments(w int) []api.Range {
	return append(elements(w), span(1, 0), span(0, 1<<w), span(1<<w, 1<<w), span(math.MaxUint64, 1))
}

// sane returns the element that an argument stands for.
func sane(w int, r api.Range) api.Range {
	if r.Lo > r.Hi || r.Hi > bits.Mask(w) {
		return span(0, bits.Mask(w))
	}
	return r
}

// values returns what an element of a small width contains, all values if it is not valid.
func values(w int, r api.Range) []uint64 {
	r = sane(w, r)
	var list []uint64
	for x := r.Lo; x <= r.Hi; x++ {
		list = append(list, x)
	}
	return list
}

// isSubset reports whether b has all numbers of a.
func isSubset(a, b []uint64) bool {
	return !slices.ContainsFunc(a, func(x uint64) bool { return !slices.Contains(b, x) })
}

// random returns an element of any width, and one of the values that it contains.
func random(r *rand.Rand, w int) (api.Range, uint64) {
	a, b := bits.Cut(w, r.Uint64()>>r.IntN(64)), bits.Cut(w, r.Uint64()>>r.IntN(64))
	switch r.IntN(5) {
	case 0:
		b = a
	case 1: // the upper end of the values
		a, b = bits.Mask(w)-a, bits.Mask(w)-b
	case 2: // close to each other
		b = bits.Cut(w, a+b%16)
	}
	a, b = min(a, b), max(a, b)
	x := a + r.Uint64()%max(1, b-a)
	if r.IntN(3) == 0 {
		x = b
	}
	return span(a, b), x
}

// TestElements checks Top, Const and Valid of P13.1.
func TestElements(t *testing.T) {
	for _, w := range []int{math.MinInt, 0, 1, 4, 63, 64, 65, math.MaxInt} {
		if ranges.Top(w) != span(0, bits.Mask(w)) {
			t.Errorf("Top(%d) is %v", w, ranges.Top(w))
		}
		for _, x := range []uint64{0, 1, 2, 5, 15, 16, 1<<63 - 1, 1 << 63, math.MaxUint64} {
			if r := ranges.Const(w, x); r != span(bits.Cut(w, x), bits.Cut(w, x)) {
				t.Errorf("Const(%d, %d) is %v", w, x, r)
			}
		}
	}
	for _, c := range []struct {
		w    int
		r    api.Range
		want bool
	}{
		{4, span(0, 0), true}, {4, span(0, 15), true}, {4, span(15, 15), true}, {4, span(3, 5), true}, {4, span(5, 3), false}, {4, span(1, 0), false}, {4, span(3, 16), false}, {4, span(16, 16), false}, {4, span(16, 3), false}, {4, span(0, math.MaxUint64), false}, {1, span(0, 1), true}, {1, span(0, 2), false}, {0, span(0, 1), true}, {0, span(1, 2), false}, {math.MinInt, span(1, 1), true},
		{63, span(0, 1<<63-1), true}, {63, span(0, 1<<63), false}, {64, span(1<<63, math.MaxUint64), true}, {65, span(0, math.MaxUint64), true}, {math.MaxInt, span(math.MaxUint64, 0), false},
	} {
		if ranges.Valid(c.w, c.r) != c.want {
			t.Errorf("Valid(%d, %v)", c.w, c.r)
		}
	}
}

// TestContents checks Has, Single and Leq of P13.1.
func TestContents(t *testing.T) {
	for w := 1; w <= 3; w++ {
		for _, a := range arguments(w) {
			contained := values(w, a)
			for x := range uint64(4) << w {
				if ranges.Has(w, a, x) != slices.Contains(contained, bits.Cut(w, x)) {
					t.Fatalf("Has(%d, %v, %d)", w, a, x)
				}
			}
			x, ok := ranges.Single(w, a)
			if ok != (len(contained) == 1) || ok && x != contained[0] || !ok && x != 0 {
				t.Fatalf("Single(%d, %v) is %d, %v", w, a, x, ok)
			}
			for _, b := range arguments(w) {
				if ranges.Leq(w, a, b) != isSubset(contained, values(w, b)) {
					t.Fatalf("Leq(%d, %v, %v)", w, a, b)
				}
			}
		}
	}
	high := span(1<<63, math.MaxUint64)
	if !ranges.Has(64, high, math.MaxUint64) || !ranges.Has(70, high, 1<<63) || ranges.Has(64, high, 1<<63-1) || !ranges.Has(63, high, 0) || !ranges.Has(0, span(1, 1), 3) || ranges.Has(0, span(1, 1), 2) {
		t.Error("Has of other widths")
	}
	if x, ok := ranges.Single(64, span(math.MaxUint64, math.MaxUint64)); x != math.MaxUint64 || !ok {
		t.Error("Single of width 64:", x, ok)
	}
	if x, ok := ranges.Single(63, span(math.MaxUint64, math.MaxUint64)); x != 0 || ok {
		t.Error("Single of an element that is not valid:", x, ok)
	}
	if !ranges.Leq(64, span(1<<63, 1<<63), high) || ranges.Leq(64, high, span(1<<63+1, math.MaxUint64)) || ranges.Leq(99, span(0, 1), high) {
		t.Error("Leq of other widths")
	}
}

// TestFill checks Fill of P13.1.
func TestFill(t *testing.T) {
	want := uint64(0)
	for x := range uint64(5000) {
		if x > want {
			want = 2*want + 1
		}
		if y := ranges.Fill(x); y != want {
			t.Fatalf("Fill(%d) is %d, not %d", x, y, want)
		}
	}
	for k := range 64 {
		if x := uint64(1) << k; ranges.Fill(x) != 2*x-1 || ranges.Fill(x-1) != x-1 || ranges.Fill(x+x/2) != 2*x-1 {
			t.Errorf("Fill near 2^%d", k)
		}
	}
	if ranges.Fill(math.MaxUint64) != math.MaxUint64 || ranges.Fill(1<<63) != math.MaxUint64 {
		t.Error("Fill of great numbers")
	}
}

// TestMeetJoin checks P13.2, and the bounds of P13.4.
func TestMeetJoin(t *testing.T) {
	for w := 1; w <= 3; w++ {
		for _, a := range arguments(w) {
			for _, b := range arguments(w) {
				inA, inB := values(w, a), values(w, b)
				common := slices.DeleteFunc(slices.Clone(inA), func(x uint64) bool { return !slices.Contains(inB, x) })
				want := span(0, bits.Mask(w))
				if len(common) > 0 {
					want = span(common[0], common[len(common)-1])
				}
				m, ok := ranges.Meet(w, a, b)
				if m != want || ok != (len(common) > 0) {
					t.Fatalf("Meet(%d, %v, %v) is %v, %v, not %v", w, a, b, m, ok, want)
				}
				all := append(inA, inB...)
				j := ranges.Join(w, a, b)
				if j != span(slices.Min(all), slices.Max(all)) {
					t.Fatalf("Join(%d, %v, %v) is %v", w, a, b, j)
				}
				for _, c := range elements(w) {
					if ok && ranges.Leq(w, c, m) != (ranges.Leq(w, c, a) && ranges.Leq(w, c, b)) || !ok && ranges.Leq(w, c, a) && ranges.Leq(w, c, b) {
						t.Fatalf("%v is no greatest lower bound of %v and %v", m, a, b)
					}
					if ranges.Leq(w, j, c) != (ranges.Leq(w, a, c) && ranges.Leq(w, b, c)) {
						t.Fatalf("%v is no least upper bound of %v and %v", j, a, b)
					}
				}
			}
		}
	}
	top := uint64(math.MaxUint64)
	if m, ok := ranges.Meet(64, span(5, 1<<63), span(1<<63, top)); m != span(1<<63, 1<<63) || !ok {
		t.Error("a wide Meet:", m, ok)
	}
	if m, ok := ranges.Meet(99, span(5, 1<<63-1), span(1<<63, top)); m != span(0, top) || ok {
		t.Error("an empty Meet:", m, ok)
	}
	if m, ok := ranges.Meet(-1, span(0, 0), span(1, 1)); m != span(0, 1) || ok {
		t.Error("an empty Meet of width 1:", m, ok)
	}
	if j := ranges.Join(65, span(5, 9), span(top, top)); j != span(5, top) {
		t.Error("a wide Join:", j)
	}
}
