package cvec_test

import (
	"fmt"
	"math"
	"math/big"
	"math/rand/v2"
	"slices"
	"strconv"
	"testing"

	"saturate/api"
	"saturate/bits"
	"saturate/cvec"
	"saturate/eval"
	"saturate/exhaust"
	"saturate/term"
)

var (
	x, y, z = term.Var("x", 4), term.Var("y", 4), term.Var("z", 1)
	vars    = []api.Var{{Name: "x", Width: 4}, {Name: "y", Width: 4}, {Name: "z", Width: 1}}
)

// TestNext checks Next of P45.1 with exact numbers.
func TestNext(t *testing.T) {
	modulus := new(big.Int).Lsh(big.NewInt(1), 64)
	for _, v := range []uint64{0, 1, 2, 3, 1 << 32, 1 << 63, math.MaxUint64, 7806831264735756412} {
		n := new(big.Int).SetUint64(v)
		n.Mul(n, big.NewInt(6364136223846793005))
		n.Add(n, big.NewInt(1442695040888963407))
		if want := n.Mod(n, modulus).Uint64(); cvec.Next(v) != want {
			t.Errorf("Next(%d) is %d, not %d", v, cvec.Next(v), want)
		}
	}
}

// TestSamples checks P45.1 for all widths.
func TestSamples(t *testing.T) {
	for first := 1; first <= 64; first += 7 {
		var list []api.Var
		for i := range 9 {
			list = append(list, api.Var{Name: "v" + strconv.Itoa(i), Width: min(first+i, 64)})
		}
		seed := uint64(first) << 55
		state := seed
		l := cvec.Samples(list, 20, seed)
		if len(l) != 20 {
			t.Fatal(len(l))
		}
		for k, sample := range l {
			for i, v := range list {
				want := []uint64{0, math.MaxUint64, 1, 1 << (v.Width - 1)}
				if k >= 4 {
					state = cvec.Next(state)
					want = slices.Repeat([]uint64{state / 65536}, k+1)
				}
				if b := sample[i]; b.Name != v.Name || b.Val != bits.Cut(v.Width, want[k]) {
					t.Fatalf("sample %d of %v is %v, not %d", k, v, b, bits.Cut(v.Width, want[k]))
				}
			}
			if len(sample) != len(list) {
				t.Fatal(len(sample))
			}
		}
	}
}

// TestSamplesLimits checks P45.1 for numbers that are out of range.
func TestSamplesLimits(t *testing.T) {
	for n, want := range map[int]int{0: 0, -1: 0, math.MinInt: 0, 1: 1, 255: 255, 256: 256, 257: 256, math.MaxInt: 256} {
		if l := cvec.Samples(vars, n, 5); len(l) != want {
			t.Errorf("%d samples, not %d", len(l), want)
		}
		if l := cvec.Samples(nil, n, 5); len(l) != want || want > 0 && len(l[want-1]) != 0 {
			t.Errorf("%d samples without variables, not %d", len(l), want)
		}
	}
	var many []api.Var
	for i := range 20 {
		many = append(many, api.Var{Name: strconv.Itoa(i), Width: 8})
	}
	l, want := cvec.Samples(many, 9, 1), cvec.Samples(many[:16], 9, 1)
	if !slices.EqualFunc(l, want, slices.Equal[[]api.Bind]) || len(l[8]) != 16 {
		t.Error("more than 16 variables:", len(l[8]))
	}
	odd := cvec.Samples([]api.Var{{Name: "", Width: 0}, {Name: "x", Width: math.MinInt}, {Name: "x", Width: 65}, {Name: "A b", Width: math.MaxInt}}, 6, 3)
	same := cvec.Samples([]api.Var{{Name: "", Width: 1}, {Name: "x", Width: 1}, {Name: "x", Width: 64}, {Name: "A b", Width: 64}}, 6, 3)
	if !slices.EqualFunc(odd, same, slices.Equal[[]api.Bind]) || odd[1][0].Val != 1 || odd[3][2].Val != 1<<63 {
		t.Error("widths out of range:", odd)
	}
	example := cvec.Samples([]api.Var{{Name: "x", Width: 4}}, 4, 9)
	if !slices.EqualFunc(example, [][]api.Bind{{{Name: "x"}}, {{Name: "x", Val: 15}}, {{Name: "x", Val: 1}}, {{Name: "x", Val: 8}}}, slices.Equal[[]api.Bind]) {
		t.Error("example 1:", example)
	}
}

// randomTerm returns a valid term of width 4.
func randomTerm(r *rand.Rand, depth int) api.Term {
	if depth == 0 || r.IntN(6) == 0 {
		return []api.Term{x, y, term.Const(4, r.Uint64N(16))}[r.IntN(3)]
	}
	op := api.OpNot + api.Op(r.IntN(int(api.OpIte-api.OpNot)+1))
	a, b := randomTerm(r, depth-1), randomTerm(r, depth-1)
	switch {
	case op <= api.OpNeg:
		return term.Make(op, a)
	case op == api.OpIte:
		return term.Make(op, z, a, b)
	case op >= api.OpEq:
		return api.Term{Op: api.OpSext, Width: 4, Args: []api.Term{term.Make(op, a, b)}}
	}
	return term.Make(op, a, b)
}

// invalid has terms that are not valid, by the error of term.Check.
func invalid() map[api.Errno]api.Term {
	return map[api.Errno]api.Term{
		api.ErrOp: {}, api.ErrName: {Op: api.OpVar, Width: 4, Name: "X"}, api.ErrWidth: {Op: api.OpNot, Width: 3, Args: []api.Term{x}}, api.ErrBind: term.Make(api.OpConcat, x, term.Var("x", 3)), api.ErrLong: {Args: make([]api.Term, 4096)},
	}
}

// TestVector checks P45.2 for valid terms, by evaluating them.
func TestVector(t *testing.T) {
	samples := cvec.Samples(vars, 12, 77)
	samples[5] = append(samples[5], api.Bind{Name: "x", Val: 3}, api.Bind{Name: "other", Val: 9})
	samples[6] = []api.Bind{{Name: "z", Val: 6}, {Name: "y", Val: 255}, {Name: "x", Val: 17}, {Name: "x", Val: 2}}
	for seed := range uint64(300) {
		r := rand.New(rand.NewPCG(seed, 45))
		a, b := randomTerm(r, 3), randomTerm(r, 1+r.IntN(3))
		if r.IntN(3) == 0 {
			b = term.Make(api.OpXor, a, b)
		}
		distinct := -1
		v, e := cvec.Vector(a, samples)
		if e != api.OK || len(v) != len(samples) {
			t.Fatal(a, v, e)
		}
		for k, sample := range samples {
			wantA, _ := eval.Eval(a, sample)
			wantB, _ := eval.Eval(b, sample)
			if v[k] != wantA {
				t.Fatalf("value %d of %v is %d, not %d", k, a, v[k], wantA)
			}
			if distinct < 0 && wantA != wantB {
				distinct = k
			}
		}
		if n := cvec.Distinct(a, b, samples); n != distinct {
			t.Fatalf("Distinct of %v and %v is %d, not %d", a, b, n, distinct)
		}
	}
	if v, e := cvec.Vector(x, nil); len(v) != 0 || e != api.OK || cvec.Distinct(x, y, nil) != -1 {
		t.Error("no samples:", v, e)
	}
	if v, e := cvec.Vector(term.Const(4, 9), [][]api.Bind{nil, nil}); !slices.Equal(v, []uint64{9, 9}) || e != api.OK {
		t.Error("a closed term:", v, e)
	}
}

// TestVectorErrors checks the errors of P45.2.
func TestVectorErrors(t *testing.T) {
	samples := cvec.Samples(vars, 5, 1)
	lacking := cvec.Samples(vars, 5, 1)
	lacking[4] = lacking[4][1:]
	for want, u := range invalid() {
		for _, l := range [][][]api.Bind{nil, samples, {nil}} {
			if v, e := cvec.Vector(u, l); len(v) != 0 || e != want || cvec.Distinct(u, u, l) != -2 || cvec.Distinct(u, x, l) != -2 || cvec.Distinct(x, u, l) != -2 {
				t.Errorf("error %d: %v, %d", want, v, e)
			}
		}
	}
	sum := term.Make(api.OpAdd, y, x)
	for i, c := range []struct {
		t    api.Term
		l    [][]api.Bind
		want api.Errno
	}{{sum, lacking, api.ErrBind}, {y, lacking, api.OK}, {x, lacking, api.ErrBind}, {x, [][]api.Bind{nil}, api.ErrBind}, {x, [][]api.Bind{{{Name: "X"}, {Name: ""}}}, api.ErrBind}, {term.Var("other", 4), samples, api.ErrBind}, {sum, samples, api.OK}} {
		if v, e := cvec.Vector(c.t, c.l); e != c.want || e != api.OK && len(v) != 0 {
			t.Errorf("case %d: %v, %d, not %d", i, v, e, c.want)
		}
		if n := cvec.Distinct(c.t, c.t, c.l); (n == -2) != (c.want != api.OK) {
			t.Errorf("case %d: Distinct is %d", i, n)
		}
	}
	if n := cvec.Distinct(x, y, lacking); n != -2 {
		t.Error("a variable is missing in a later sample:", n)
	}
	if n := cvec.Distinct(x, z, samples); n != -2 {
		t.Error("other widths:", n)
	}
	if n := cvec.Distinct(x, z, nil); n != -2 {
		t.Error("other widths without samples:", n)
	}
}

// TestGroups checks P45.3 and P45.4 for random terms.
func TestGroups(t *testing.T) {
	for seed := range uint64(12) {
		r := rand.New(rand.NewPCG(seed, 453))
		samples := cvec.Samples(vars, r.IntN(7), seed)
		terms := []api.Term{z, term.Make(api.OpEq, x, y), term.Const(1, 0), term.Const(5, 0)}
		for range 30 {
			terms = append(terms, randomTerm(r, r.IntN(3)))
		}
		terms = append(terms, terms[r.IntN(30):]...)
		for _, u := range invalid() {
			terms = append(terms, u)
		}
		if len(samples) > 0 {
			terms = append(terms, term.Var("missing", 4))
		}
		r.Shuffle(len(terms), func(i, j int) { terms[i], terms[j] = terms[j], terms[i] })
		groups := cvec.Groups(terms, samples)
		checkGroups(t, terms, samples, groups)
		if again := cvec.Sort(groups); !slices.EqualFunc(again, groups, sameGroup) {
			t.Fatalf("Sort changes the order of %v", groups)
		}
	}
}

func sameGroup(a, b api.Group) bool {
	return a.Width == b.Width && slices.Equal(a.Vector, b.Vector) && slices.EqualFunc(a.Terms, b.Terms, term.Same)
}

// checkGroups checks the groups of terms.
func checkGroups(t *testing.T, terms []api.Term, samples [][]api.Bind, groups []api.Group) {
	t.Helper()
	places := map[string]int{}
	for i, g := range groups {
		if slices.ContainsFunc(groups[:i], func(o api.Group) bool { return o.Width == g.Width && slices.Equal(o.Vector, g.Vector) }) {
			t.Fatalf("group %d is there twice", i)
		}
		if i > 0 && (groups[i-1].Width > g.Width || groups[i-1].Width == g.Width && term.Compare(groups[i-1].Terms[0], g.Terms[0]) >= 0) {
			t.Fatalf("the order of groups %d and %d", i-1, i)
		}
		for k, u := range g.Terms {
			v, e := cvec.Vector(u, samples)
			if e != api.OK || u.Width != g.Width || !slices.Equal(v, g.Vector) || !slices.ContainsFunc(terms, func(o api.Term) bool { return term.Same(o, u) }) {
				t.Fatalf("%v is in the group %v", u, g)
			}
			if k > 0 && term.Compare(g.Terms[k-1], u) >= 0 {
				t.Fatalf("the order of terms in %v", g)
			}
			places[fmt.Sprint(u)] = i
		}
	}
	for _, a := range terms {
		at, ok := places[fmt.Sprint(a)]
		if _, e := cvec.Vector(a, samples); ok != (e == api.OK) {
			t.Fatalf("%v is in a group: %v", a, ok)
		}
		for _, b := range terms {
			if equal, _, e := exhaust.Equal(a, b); e == api.OK && equal && ok && at != places[fmt.Sprint(b)] {
				t.Fatalf("%v and %v are in different groups", a, b)
			}
		}
	}
}

// TestGroupsEmpty checks P45.3 without terms, without samples, and for terms of which none has a vector.
func TestGroupsEmpty(t *testing.T) {
	samples := cvec.Samples(vars, 5, 1)
	if len(cvec.Groups(nil, samples)) != 0 || len(cvec.Groups([]api.Term{{}, term.Var("missing", 4)}, samples)) != 0 || len(cvec.Groups(nil, nil)) != 0 {
		t.Error("groups without terms")
	}
	l := cvec.Groups([]api.Term{y, z, x, y}, nil)
	want := []api.Group{{Width: 1, Terms: []api.Term{z}}, {Width: 4, Terms: []api.Term{x, y}}}
	if !slices.EqualFunc(l, want, sameGroup) {
		t.Error("no samples:", l)
	}
	close := []api.Term{term.Const(8, 1), term.Const(8, 12), term.Const(4, 1), term.Const(8, 11)}
	if l := cvec.Groups(close, [][]api.Bind{nil, nil}); len(l) != 4 || l[0].Width != 4 || l[1].Vector[1] != 1 || l[2].Vector[1] != 11 {
		t.Error("constants:", l)
	}
}

// TestSort checks Sort of P45.3, for groups that Groups does not return too.
func TestSort(t *testing.T) {
	group := func(width int, mark uint64, terms ...api.Term) api.Group {
		return api.Group{Width: width, Vector: []uint64{mark}, Terms: terms}
	}
	sum := term.Make(api.OpAdd, x, y)
	l := []api.Group{
		group(4, 1, sum, x), group(4, 2, y), group(1, 3, sum), group(4, 4), group(-7, 5, y, x), group(4, 6, x, sum), group(4, 7), group(1, 8), group(4, 9, sum), group(4, 10, x), group(math.MaxInt, 11), group(4, 12, api.Term{}), group(math.MinInt, 13, sum), group(1, 14),
	}
	given := cvec.Sort(l)
	want := []uint64{13, 5, 8, 14, 3, 4, 7, 12, 6, 10, 2, 1, 9, 11}
	for i, g := range given {
		if g.Vector[0] != want[i] || !sameGroup(g, l[want[i]-1]) {
			t.Fatalf("place %d: %v, not %d", i, g, want[i])
		}
	}
	if len(given) != len(l) || len(cvec.Sort(nil)) != 0 {
		t.Error(len(given))
	}
	r := rand.New(rand.NewPCG(1, 45))
	for range 200 {
		r.Shuffle(len(given), func(i, j int) { given[i], given[j] = given[j], given[i] })
		sorted := cvec.Sort(given)
		for i := range len(sorted) - 1 {
			a, b := sorted[i], sorted[i+1]
			first := func(g api.Group) []api.Term { return g.Terms[:min(len(g.Terms), 1)] }
			order := slices.CompareFunc(first(a), first(b), term.Compare)
			if a.Width > b.Width || a.Width == b.Width && order > 0 {
				t.Fatalf("%v is before %v", a, b)
			}
		}
	}
}

// TestMemory checks that results share no memory with arguments and with each other (general rule 5).
func TestMemory(t *testing.T) {
	u := term.Make(api.OpAdd, x, y)
	terms, samples := []api.Term{u, y, u}, cvec.Samples(vars, 3, 1)
	l := cvec.Groups(terms, samples)
	sorted := cvec.Sort(l)
	sorted[0].Vector[0], sorted[0].Terms[0].Name, sorted[1].Terms[0].Args[0].Name = 99, "z", "z"
	if l[0].Vector[0] == 99 || l[0].Terms[0].Name != "y" || l[1].Terms[0].Args[0].Name != "x" {
		t.Error("Sort:", l)
	}
	l[1].Terms[0].Args[0].Name, l[0].Terms[0].Name = "z", "z"
	if u.Args[0].Name != "x" || terms[1].Name != "y" || terms[0].Op != api.OpAdd {
		t.Error("Groups:", terms)
	}
	samples[0][0].Val = 99
	if again := cvec.Samples(vars, 3, 1); again[0][0].Val != 0 {
		t.Error("Samples:", again)
	}
}
