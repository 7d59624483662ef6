package known_test

import (
	"math"
	"math/rand/v2"
	"slices"
	"testing"

	"saturate/api"
	"saturate/bits"
	"saturate/known"
)

// elements returns all valid elements of a small width.
func elements(w int) []api.Known {
	var list []api.Known
	for zeros := range uint64(1) << w {
		for ones := range uint64(1) << w {
			if zeros&ones == 0 {
				list = append(list, api.Known{Zeros: zeros, Ones: ones})
			}
		}
	}
	return list
}

// arguments returns all elements of a small width, and some that are not valid.
func arguments(w int) []api.Known {
	return append(elements(w), api.Known{Zeros: 1, Ones: 1}, api.Known{Zeros: 1 << w}, api.Known{Ones: 1 << w}, api.Known{Zeros: 1, Ones: 1 << 63}, api.Known{Zeros: math.MaxUint64, Ones: math.MaxUint64})
}

// values returns what an element of a small width contains, all values if it is not valid.
func values(w int, k api.Known) []uint64 {
	var list []uint64
	for x := range uint64(1) << w {
		if x&k.Zeros == 0 && x&k.Ones == k.Ones {
			list = append(list, x)
		}
	}
	if k.Zeros&k.Ones != 0 || (k.Zeros|k.Ones)>>w != 0 {
		list = values(w, api.Known{})
	}
	return list
}

// hull returns the smallest element that contains all values of a list.
func hull(w int, list []uint64) api.Known {
	k := api.Known{Zeros: bits.Mask(w), Ones: bits.Mask(w)}
	for _, x := range list {
		k.Zeros &^= x
		k.Ones &= x
	}
	return k
}

// isSubset reports whether b has all numbers of a.
func isSubset(a, b []uint64) bool {
	return !slices.ContainsFunc(a, func(x uint64) bool { return !slices.Contains(b, x) })
}

// random returns an element of any width, and one of the values that it contains.
func random(r *rand.Rand, w int) (api.Known, uint64) {
	x := bits.Cut(w, r.Uint64())
	known := r.Uint64() | r.Uint64()&r.Uint64()
	if r.IntN(4) == 0 {
		known = math.MaxUint64
	}
	return api.Known{Zeros: bits.Cut(w, ^x&known), Ones: x & known}, x
}

// TestValid checks Valid of P12.1, for widths that are clamped too.
func TestValid(t *testing.T) {
	for _, c := range []struct {
		w    int
		k    api.Known
		want bool
	}{
		{4, api.Known{}, true}, {4, api.Known{Zeros: 15}, true}, {4, api.Known{Ones: 15}, true}, {4, api.Known{Zeros: 5, Ones: 10}, true}, {4, api.Known{Zeros: 5, Ones: 2}, true}, {4, api.Known{Zeros: 16}, false}, {4, api.Known{Ones: 16}, false}, {4, api.Known{Ones: 1 << 63}, false}, {4, api.Known{Zeros: 1, Ones: 1}, false}, {4, api.Known{Zeros: 8, Ones: 12}, false},
		{1, api.Known{Ones: 1}, true}, {1, api.Known{Ones: 2}, false}, {0, api.Known{Ones: 1}, true}, {0, api.Known{Ones: 2}, false}, {-9, api.Known{Zeros: 1}, true}, {math.MinInt, api.Known{Zeros: 2}, false}, {63, api.Known{Zeros: 1 << 62}, true}, {63, api.Known{Zeros: 1 << 63}, false}, {64, api.Known{Ones: math.MaxUint64}, true}, {99, api.Known{Zeros: 1 << 63}, true}, {math.MaxInt, api.Known{Zeros: math.MaxUint64, Ones: 1}, false},
	} {
		if known.Valid(c.w, c.k) != c.want {
			t.Errorf("Valid(%d, %v)", c.w, c.k)
		}
	}
}

// TestTopConst checks Top and Const of P12.1.
func TestTopConst(t *testing.T) {
	for _, w := range []int{math.MinInt, 0, 1, 4, 63, 64, 65, math.MaxInt} {
		if known.Top(w) != (api.Known{}) {
			t.Errorf("Top(%d)", w)
		}
		for _, x := range []uint64{0, 1, 2, 5, 15, 16, 1<<63 - 1, 1 << 63, math.MaxUint64} {
			want := api.Known{Zeros: bits.Mask(w) &^ x, Ones: bits.Mask(w) & x}
			if k := known.Const(w, x); k != want {
				t.Errorf("Const(%d, %d) is %v", w, x, k)
			}
		}
	}
}

// TestContents checks Has, Single, Size and Leq of P12.1.
func TestContents(t *testing.T) {
	for w := 1; w <= 3; w++ {
		for _, a := range arguments(w) {
			contained := values(w, a)
			for x := range uint64(4) << w {
				if known.Has(w, a, x) != slices.Contains(contained, bits.Cut(w, x)) {
					t.Fatalf("Has(%d, %v, %d)", w, a, x)
				}
			}
			x, ok := known.Single(w, a)
			if ok != (len(contained) == 1) || ok && x != contained[0] || !ok && x != 0 {
				t.Fatalf("Single(%d, %v) is %d, %v", w, a, x, ok)
			}
			if n := known.Size(w, a); 1<<n != len(contained) {
				t.Fatalf("Size(%d, %v) is %d", w, a, n)
			}
			for _, b := range arguments(w) {
				if known.Leq(w, a, b) != isSubset(contained, values(w, b)) {
					t.Fatalf("Leq(%d, %v, %v)", w, a, b)
				}
			}
		}
	}
}

// TestWideContents checks P12.1 for great widths and such as are clamped.
func TestWideContents(t *testing.T) {
	high := api.Known{Zeros: 1, Ones: 1 << 63}
	if !known.Has(64, high, 1<<63) || !known.Has(70, high, 1<<63|6) || known.Has(64, high, 2) || known.Has(64, high, 1<<63|1) || !known.Has(63, high, 1) {
		t.Error("Has")
	}
	if x, ok := known.Single(64, known.Const(64, math.MaxUint64-5)); x != math.MaxUint64-5 || !ok {
		t.Error("Single:", x, ok)
	}
	if x, ok := known.Single(0, api.Known{Ones: 1}); x != 1 || !ok {
		t.Error("Single of width 0:", x, ok)
	}
	if x, ok := known.Single(65, known.Const(63, 5)); x != 0 || ok {
		t.Error("Single of too few bits:", x, ok)
	}
	if known.Size(64, high) != 62 || known.Size(99, api.Known{}) != 64 || known.Size(-1, api.Known{}) != 1 || known.Size(-1, api.Known{Zeros: 1}) != 0 || known.Size(8, api.Known{Ones: 256}) != 8 || known.Size(64, known.Const(64, 9)) != 0 {
		t.Error("Size")
	}
	if !known.Leq(64, known.Const(64, 1<<63), high) || known.Leq(64, high, known.Const(64, 1<<63)) || !known.Leq(63, high, api.Known{}) || known.Leq(63, high, api.Known{Zeros: 1}) {
		t.Error("Leq")
	}
}

// TestMeetJoin checks P12.2, and the bounds of P12.5.
func TestMeetJoin(t *testing.T) {
	for w := 1; w <= 3; w++ {
		for _, a := range arguments(w) {
			for _, b := range arguments(w) {
				inA, inB := values(w, a), values(w, b)
				common := slices.DeleteFunc(slices.Clone(inA), func(x uint64) bool { return !slices.Contains(inB, x) })
				want := api.Known{}
				if len(common) > 0 {
					want = hull(w, common)
				}
				m, ok := known.Meet(w, a, b)
				if m != want || ok != (len(common) > 0) || ok && !slices.Equal(values(w, m), common) {
					t.Fatalf("Meet(%d, %v, %v) is %v, %v, not %v", w, a, b, m, ok, want)
				}
				j := known.Join(w, a, b)
				if want := hull(w, append(inA, inB...)); j != want {
					t.Fatalf("Join(%d, %v, %v) is %v, not %v", w, a, b, j, want)
				}
				for _, c := range elements(w) {
					if ok && known.Leq(w, c, m) != (known.Leq(w, c, a) && known.Leq(w, c, b)) || !ok && known.Leq(w, c, a) && known.Leq(w, c, b) {
						t.Fatalf("%v is no greatest lower bound of %v and %v", m, a, b)
					}
					if known.Leq(w, j, c) != (known.Leq(w, a, c) && known.Leq(w, b, c)) {
						t.Fatalf("%v is no least upper bound of %v and %v", j, a, b)
					}
				}
			}
		}
	}
	a, b := api.Known{Zeros: 1 << 63, Ones: 5}, api.Known{Ones: 1<<62 | 4}
	if m, ok := known.Meet(64, a, b); m != (api.Known{Zeros: 1 << 63, Ones: 1<<62 | 5}) || !ok {
		t.Error("a wide Meet:", m, ok)
	}
	if m, ok := known.Meet(64, a, api.Known{Ones: 1 << 63}); m != (api.Known{}) || ok {
		t.Error("an empty Meet:", m, ok)
	}
	if m, ok := known.Meet(0, known.Const(1, 0), api.Known{Ones: 2}); m != (api.Known{Zeros: 1}) || !ok {
		t.Error("a Meet of width 0:", m, ok)
	}
	if j := known.Join(99, a, api.Known{Zeros: 3 << 62, Ones: 4}); j != (api.Known{Zeros: 1 << 63, Ones: 4}) {
		t.Error("a wide Join:", j)
	}
}

// combined returns the results of an operation for all contained values.
func combined(w int, f func(w int, a, b uint64) uint64, a, b api.Known) []uint64 {
	var list []uint64
	for _, x := range values(w, a) {
		for _, y := range values(w, b) {
			list = append(list, f(w, x, y))
		}
	}
	return list
}

// TestAddSub checks P12.3: every element of a small width has the exact result.
func TestAddSub(t *testing.T) {
	for w := 1; w <= 4; w++ {
		for _, a := range arguments(w) {
			for _, b := range arguments(w) {
				if k, want := known.Add(w, a, b), hull(w, combined(w, bits.Add, a, b)); k != want {
					t.Fatalf("Add(%d, %v, %v) is %v, not %v", w, a, b, k, want)
				}
				if k, want := known.Sub(w, a, b), hull(w, combined(w, bits.Sub, a, b)); k != want {
					t.Fatalf("Sub(%d, %v, %v) is %v, not %v", w, a, b, k, want)
				}
			}
		}
	}
}

// TestWideAddSub checks P12.3 for great widths.
func TestWideAddSub(t *testing.T) {
	r := rand.New(rand.NewPCG(12, 3))
	for range 20000 {
		w := 1 + r.IntN(64)
		a, x := random(r, w)
		b, y := random(r, w)
		sum, difference := known.Add(w, a, b), known.Sub(w, a, b)
		if !known.Valid(w, sum) || !known.Has(w, sum, x+y) || !known.Valid(w, difference) || !known.Has(w, difference, x-y) {
			t.Fatalf("width %d: %v and %v have the sum %v and the difference %v", w, a, b, sum, difference)
		}
		if k := known.Add(w, known.Const(w, x), known.Const(w, y)); k != known.Const(w, x+y) {
			t.Fatal(w, x, y, k)
		}
		if k := known.Sub(w, known.Const(w, x), known.Const(w, y)); k != known.Const(w, x-y) {
			t.Fatal(w, x, y, k)
		}
	}
	if k := known.Add(64, api.Known{Zeros: math.MaxUint64 - 1}, known.Const(64, 1<<63)); k != (api.Known{Zeros: 1<<63 - 2, Ones: 1 << 63}) {
		t.Error("a sum of width 64:", k)
	}
	if k := known.Sub(99, known.Const(64, 0), known.Const(64, 1)); k != known.Const(64, math.MaxUint64) {
		t.Error("a difference of width 64:", k)
	}
	if k := known.Add(0, known.Const(1, 1), known.Const(1, 1)); k != known.Const(1, 0) {
		t.Error("a sum of width 1:", k)
	}
	if k := known.Add(4, api.Known{Zeros: 1}, known.Const(4, 1)); k != (api.Known{Ones: 1}) {
		t.Error("the example:", k)
	}
}
