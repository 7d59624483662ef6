package journal_test

import (
	"math/rand/v2"
	"slices"
	"testing"

	"saturate/api"
	"saturate/hashcons"
	"saturate/journal"
	"saturate/term"
)

// randomTerm returns a term of width 8. There are few of them, so that congruences are frequent.
func randomTerm(r *rand.Rand, depth int) api.Term {
	switch {
	case depth == 0 || r.IntN(4) == 0:
		if r.IntN(4) == 0 {
			return term.Const(8, r.Uint64N(3))
		}
		return term.Var([]string{"a", "b", "c"}[r.IntN(3)], 8)
	case r.IntN(2) == 0:
		return term.Make(api.OpNot, randomTerm(r, depth-1))
	}
	return term.Make(api.OpAdd, randomTerm(r, depth-1), randomTerm(r, depth-1))
}

// randomEvents returns valid events. Some of them have an error.
func randomEvents(r *rand.Rand, n int, kinds ...int) []api.Event {
	var l []api.Event
	for range n {
		event := api.Event{Kind: kinds[r.IntN(len(kinds))]}
		switch event.Kind {
		case api.EvAdd:
			event.Term = randomTerm(r, 3)
		case api.EvUnion:
			event.A, event.B = r.IntN(10)-r.IntN(20)/19, r.IntN(10)
		case api.EvUndo:
			event.A = r.IntN(4) - 1
		}
		l = append(l, event)
	}
	return l
}

// playEach plays events one by one, and those after an error, too.
func playEach(s *journal.Session, l []api.Event) ([]int, []api.Errno) {
	var results []int
	var codes []api.Errno
	for _, event := range l {
		result, e := s.Play(event)
		results = append(results, result...)
		codes = append(codes, e)
	}
	return results, codes
}

// TestParts checks that playing in parts and playing at once are the same (P23.4), and that Run is the same for the text (P23.3).
func TestParts(t *testing.T) {
	r := rand.New(rand.NewPCG(23, 4))
	failures := 0
	for range 500 {
		l := randomEvents(r, r.IntN(40), api.EvAdd, api.EvAdd, api.EvUnion, api.EvUnion, api.EvRebuild, api.EvMark, api.EvUndo)
		whole, parts := journal.New(), journal.New()
		want, wantError := whole.Play(l...)
		at := r.IntN(len(l) + 1)
		results, e := parts.Play(l[:at]...)
		if e == api.OK {
			more, code := parts.Play(l[at:]...)
			results, e = append(results, more...), code
		}
		if !slices.Equal(results, want) || e != wantError || !sameDump(parts.Graph().Dump(), whole.Graph().Dump()) || !slices.EqualFunc(parts.Events(), whole.Events(), same) {
			t.Fatalf("%v, %d, not %v, %d", results, e, want, wantError)
		}
		wantAt := 0
		if wantError != api.OK {
			failures++
			wantAt = len(want) + 1
		}
		if results, at, e := journal.Run(journal.Format(l)); !slices.Equal(results, want) || at != wantAt || e != wantError {
			t.Fatalf("Run is %v, %d, %d, not %v, %d, %d", results, at, e, want, wantAt, wantError)
		}
	}
	if failures < 100 || failures > 400 {
		t.Error(failures)
	}
}

// TestInverse checks that Parse inverts Format for valid events (P23.4).
func TestInverse(t *testing.T) {
	r := rand.New(rand.NewPCG(23, 5))
	for range 300 {
		l := randomEvents(r, r.IntN(20), api.EvAdd, api.EvUnion, api.EvRebuild, api.EvMark, api.EvUndo)
		text := journal.Format(l)
		if again, at, e := journal.Parse(text); !slices.EqualFunc(again, l, same) || at != 0 || e != api.OK {
			t.Fatalf("%q: %v, %d, %d", text, again, at, e)
		}
	}
}

// TestUndone checks that undone events have no effect on the results of later ones (P23.4).
func TestUndone(t *testing.T) {
	r := rand.New(rand.NewPCG(23, 6))
	for range 500 {
		all := []int{api.EvAdd, api.EvAdd, api.EvUnion, api.EvUnion, api.EvRebuild, api.EvMark, api.EvUndo}
		before, after := randomEvents(r, r.IntN(20), all...), randomEvents(r, r.IntN(30), all...)
		s, plain := journal.New(), journal.New()
		playEach(s, before)
		playEach(plain, before)
		number, e := s.Play(mark)
		if e != api.OK {
			t.Fatal(e)
		}
		playEach(s, randomEvents(r, r.IntN(20), api.EvAdd, api.EvUnion, api.EvUnion, api.EvRebuild))
		if ok, e := s.Play(undo(number[0])); !slices.Equal(ok, []int{1}) || e != api.OK {
			t.Fatal(ok, e)
		}
		if !sameDump(s.Graph().Dump(), plain.Graph().Dump()) || s.Graph().Dirty() != plain.Graph().Dirty() {
			t.Fatal("the state is another one")
		}
		results, codes := playEach(s, after)
		want, wantCodes := playEach(plain, after)
		if !slices.Equal(results, want) || !slices.Equal(codes, wantCodes) {
			t.Fatalf("%v, %v, not %v, %v", results, codes, want, wantCodes)
		}
		d, plainDump := s.Graph().Dump(), plain.Graph().Dump()
		if !slices.EqualFunc(d.Nodes, plainDump.Nodes, hashcons.Same) || !slices.Equal(d.Roots, plainDump.Roots) {
			t.Fatal("the state is another one at the end")
		}
	}
}
