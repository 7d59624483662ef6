package machine_test

import (
	"math/rand/v2"
	"slices"
	"testing"

	"saturate/api"
	"saturate/egraph"
	"saturate/machine"
)

// TestReader checks that a Reader finds what Find finds, however often it has searched already.
func TestReader(t *testing.T) {
	g := graph(t, "(add (not x:8) 1:8)", "(add (not y:8) (not x:8))", "(not (not 1:8))")
	g.Union(0, 2, api.WhyGiven)
	g.Rebuild()
	lists := [][]api.Atom{
		atoms(t, "", "(not ?a:8)"), atoms(t, "", "(add ?a:8 #c:8)"), atoms(t, "", "(add (not ?a:8) ?b:8)"), atoms(t, "", "?a:8"), atoms(t, "b", "(not ?a:8)", "", "(add ?b:8 ?c:8)"), atoms(t, "", "(neg ?a:8)"), atoms(t, "", "(not x:8)"), nil,
	}
	reader := machine.NewReader(g)
	r := rand.New(rand.NewPCG(26, 9))
	for range 200 {
		list, most := lists[r.IntN(len(lists))], r.IntN(9)
		want, wantError := machine.Find(g, list, most)
		l, e := reader.Find(list, most)
		if e != wantError || !slices.EqualFunc(l, want, machine.Same) {
			t.Fatalf("%v: %v, %d, not %v, %d", list, l, e, want, wantError)
		}
		for _, m := range l {
			m.Roots[0], m.Holes[0] = 77, api.Pair{}
		}
	}
}

// TestReaderErrors checks Readers that cannot find anything.
func TestReaderErrors(t *testing.T) {
	list := atoms(t, "", "?a:8")
	var zero egraph.Graph
	for _, x := range []*machine.Reader{nil, {}, machine.NewReader(nil), machine.NewReader(&zero)} {
		if l, e := x.Find(list, 9); e != api.ErrNil || len(l) != 0 {
			t.Error(l, e)
		}
	}
	g := graph(t, "x:8", "y:8")
	g.Union(0, 1, api.WhyGiven)
	if l, e := machine.NewReader(g).Find(list, 9); e != api.ErrDirty || len(l) != 0 {
		t.Error(l, e)
	}
}
