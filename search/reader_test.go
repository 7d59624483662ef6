package search_test

import (
	"math/rand/v2"
	"slices"
	"testing"

	"saturate/analysis"
	"saturate/api"
	"saturate/machine"
	"saturate/search"
)

// TestReader checks that a Reader returns what All returns, however often it has searched already.
func TestReader(t *testing.T) {
	r := rand.New(rand.NewPCG(30, 9))
	found := 0
	for range 200 {
		g := randomGraph(t, r)
		table, e := analysis.Run(g)
		if e != api.OK {
			table = nil // the unions contradict each other
		}
		reader := search.NewReader(g, table)
		for range 6 {
			x, most := randomRule(r), r.IntN(20)
			want, wantError := search.All(g, table, x, most)
			l, e := reader.All(x, most)
			if e != wantError || !slices.EqualFunc(l, want, machine.Same) {
				t.Fatalf("%v: %v, %d, not %v, %d", x, l, e, want, wantError)
			}
			found += len(l)
		}
	}
	if found < 1000 {
		t.Error(found)
	}
}

// TestReaderErrors checks Readers that cannot find anything.
func TestReaderErrors(t *testing.T) {
	x := rule(t, "?a:8", "?a:8")
	readers := []*search.Reader{nil, {}}
	for _, g := range unusable(t) {
		readers = append(readers, search.NewReader(g, nil))
	}
	for i, reader := range readers {
		if l, e := reader.All(x, 9); e != api.ErrNil || len(l) != 0 {
			t.Errorf("reader %d: %v, %d", i, l, e)
		}
	}
	g := graph(t, "x:8", "y:8")
	join(t, g, "x:8", "y:8")
	if l, e := search.NewReader(g, nil).All(x, 9); e != api.ErrDirty || len(l) != 0 {
		t.Error(l, e)
	}
}
