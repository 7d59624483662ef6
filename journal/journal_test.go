package journal_test

import (
	"math"
	"slices"
	"strings"
	"testing"

	"saturate/api"
	"saturate/hashcons"
	"saturate/journal"
	"saturate/term"
	"saturate/termtext"
)

// read reads a term, which need not be valid.
func read(t *testing.T, s string) api.Term {
	t.Helper()
	x, e := termtext.Parse(s)
	if e != api.OK {
		t.Fatalf("%s: %d", s, e)
	}
	return x
}

// add returns the event that adds a term.
func add(t *testing.T, s string) api.Event {
	t.Helper()
	return api.Event{Kind: api.EvAdd, Term: read(t, s)}
}

func union(a, b int) api.Event {
	return api.Event{Kind: api.EvUnion, A: a, B: b}
}

func undo(mark int) api.Event {
	return api.Event{Kind: api.EvUndo, A: mark}
}

var (
	rebuild = api.Event{Kind: api.EvRebuild}
	mark    = api.Event{Kind: api.EvMark}
)

// same reports whether two events are equal in all fields.
func same(a, b api.Event) bool {
	return a.Kind == b.Kind && term.Same(a.Term, b.Term) && a.A == b.A && a.B == b.B
}

// sameDump reports whether two dumps are equal in all parts.
func sameDump(a, b api.Dump) bool {
	return slices.EqualFunc(a.Nodes, b.Nodes, hashcons.Same) && slices.Equal(a.Links, b.Links) && slices.Equal(a.Roots, b.Roots)
}

// check plays events in a session, and checks their results and the error.
func check(t *testing.T, s *journal.Session, want []int, wantError api.Errno, l ...api.Event) {
	t.Helper()
	if results, e := s.Play(l...); !slices.Equal(results, want) || e != wantError {
		t.Errorf("Play is %v, %d, not %v, %d", results, e, want, wantError)
	}
}

// TestExample checks the example of chapter 23.
func TestExample(t *testing.T) {
	if l, at, e := journal.Run("add x:8\nadd (not x:8)\nunion 0 1\nrebuild\n"); !slices.Equal(l, []int{0, 1, 1, 0}) || at != 0 || e != api.OK {
		t.Error(l, at, e)
	}
}

// TestResults checks the result of each kind of events (P23.1).
func TestResults(t *testing.T) {
	s := journal.New()
	check(t, s, nil, api.OK)
	check(t, s, []int{0}, api.OK, rebuild)
	// x 0, y 1, (not x) 2, (not y) 3, their sum 4
	check(t, s, []int{0, 1, 2, 3, 4, 4}, api.OK, add(t, "x:8"), add(t, "y:8"), add(t, "(not x:8)"), add(t, "(not y:8)"), add(t, "(add (not x:8) (not y:8))"), add(t, "(add (not x:8) (not y:8))"))
	check(t, s, []int{0, 1, 0}, api.OK, mark, union(0, 1), union(1, 0))
	check(t, s, []int{1, 0, 1}, api.OK, rebuild, rebuild, mark)
	if g := s.Graph(); !g.Same(2, 3) || g.Dirty() || !slices.Equal(g.Links()[:1], []api.Link{{A: 0, B: 1, Why: api.WhyGiven}}) {
		t.Error(g.Dump())
	}
	check(t, s, []int{0, 0, 0, 1, 0, 0}, api.OK, undo(2), undo(-1), undo(math.MinInt), undo(0), undo(0), undo(1))
	if g := s.Graph(); g.Same(0, 1) || g.Len() != 5 || len(g.Links()) != 0 {
		t.Error(g.Dump())
	}
	check(t, s, []int{0, 5}, api.OK, mark, add(t, "(and x:8 y:8)"))
}

// TestErrors checks that Play stops at the first event with an error, and that the events before it stay performed (P23.1).
func TestErrors(t *testing.T) {
	invalid := api.Term{Op: api.OpVar, Width: 8, Name: "X"}
	for i, x := range []struct {
		event api.Event
		want  api.Errno
	}{
		{api.Event{}, api.ErrArg}, {api.Event{Kind: 6}, api.ErrArg}, {api.Event{Kind: -1}, api.ErrArg}, {api.Event{Kind: math.MaxInt, Term: invalid}, api.ErrArg}, {api.Event{Kind: math.MinInt}, api.ErrArg},
		{api.Event{Kind: api.EvAdd}, api.ErrOp}, {api.Event{Kind: api.EvAdd, Term: invalid}, api.ErrName}, {add(t, "?x:8"), api.ErrOp}, {add(t, "x:0"), api.ErrWidth}, {add(t, "(not (and x:8 (zext 8 x:4)))"), api.ErrBind}, {add(t, "(not (zext 8 x:4))"), api.ErrBind},
		{union(0, 2), api.ErrRange}, {union(-1, 0), api.ErrRange}, {union(math.MaxInt, math.MinInt), api.ErrRange}, {union(0, 1), api.ErrWidth},
	} {
		s := journal.New()
		l := []api.Event{add(t, "x:8"), add(t, "z:4"), x.event, add(t, "y:8")}
		check(t, s, []int{0, 1}, x.want, l...)
		if events := s.Events(); !slices.EqualFunc(events, l[:2], same) {
			t.Errorf("case %d: the events are %v", i, events)
		}
		if s.Graph().Find(1) != 1 {
			t.Errorf("case %d: the events before are not performed", i)
		}
		check(t, s, nil, x.want, x.event)
		check(t, s, []int{0, 0}, api.OK, mark, add(t, "x:8"))
	}
}

// TestEvents checks that Events returns the performed events with the fields that were passed (P23.1).
func TestEvents(t *testing.T) {
	s := journal.New()
	if len(s.Events()) != 0 {
		t.Error(s.Events())
	}
	junk := read(t, "(not ?h:0)")
	first := []api.Event{{Kind: api.EvAdd, Term: read(t, "x:8"), A: 7, B: -7}, {Kind: api.EvMark, A: 1, B: 2, Term: junk}, {Kind: api.EvAdd, Term: read(t, "y:8")}}
	second := []api.Event{{Kind: api.EvUnion, B: 1, Term: junk}, {Kind: api.EvRebuild, A: math.MinInt, Term: junk}, {Kind: api.EvUndo, B: 5, Term: junk}, {Kind: api.EvUndo, A: 3}}
	check(t, s, []int{0, 0, 1}, api.OK, first...)
	check(t, s, []int{1, 0, 1, 0}, api.OK, second...)
	if l := s.Events(); !slices.EqualFunc(l, append(first, second...), same) {
		t.Error(l)
	}
	if s.Graph().Len() != 1 {
		t.Error("the undone events are performed")
	}
}

// TestGraph checks that Graph returns the e-graph itself (P23.1).
func TestGraph(t *testing.T) {
	s := journal.New()
	g := s.Graph()
	if g == nil || g.Len() != 0 || s.Graph() != g {
		t.Fatal("the e-graph is not empty or not the same")
	}
	g.Add(api.Node{Op: api.OpVar, Width: 8, Name: "v"})
	check(t, s, []int{1, 0}, api.OK, add(t, "(not v:8)"), add(t, "v:8"))
	if g.Len() != 2 || len(s.Events()) != 2 || journal.New().Graph() == g {
		t.Error("the e-graph is not that of the session")
	}
}

// TestUnusable checks P23.1 for sessions that New did not make.
func TestUnusable(t *testing.T) {
	made := journal.New()
	check(t, made, []int{0}, api.OK, add(t, "x:8"))
	used := *made
	for i, s := range []*journal.Session{nil, {}, &used} {
		for _, l := range [][]api.Event{nil, {mark}, {{Kind: 9}}} {
			if results, e := s.Play(l...); len(results) != 0 || e != api.ErrNil {
				t.Errorf("session %d: %v, %d", i, results, e)
			}
		}
		if s.Graph() != nil || len(s.Events()) != 0 {
			t.Errorf("session %d: %v, %v", i, s.Graph(), s.Events())
		}
	}
	if made.Graph().Len() != 1 || len(made.Events()) != 1 {
		t.Error("a copy changes the session")
	}
}

// TestMemory checks general rule 5.
func TestMemory(t *testing.T) {
	s := journal.New()
	l := []api.Event{add(t, "(not x:8)"), {Kind: api.EvMark, Term: read(t, "(not x:8)")}}
	check(t, s, []int{1, 0}, api.OK, l...)
	l[0].Term.Args[0].Name = "y"
	l[1].Term.Args[0].Name = "y"
	l[0].Kind = 9
	events := s.Events()
	if events[0].Kind != api.EvAdd || events[0].Term.Args[0].Name != "x" || events[1].Term.Args[0].Name != "x" {
		t.Error("the session shares memory with arguments of Play")
	}
	events[0].Term.Args[0].Name = "z"
	events[1].Kind = 9
	if again := s.Events(); again[0].Term.Args[0].Name != "x" || again[1].Kind != api.EvMark {
		t.Error("the session shares memory with results of Events")
	}
	if _, ok := s.Graph().Lookup(api.Node{Op: api.OpVar, Width: 8, Name: "x"}); !ok {
		t.Error("the e-graph is changed")
	}
}

// TestFormat checks the lines of Format (P23.2).
func TestFormat(t *testing.T) {
	for i, x := range []struct {
		event api.Event
		want  string
	}{
		{add(t, "(extract 4 4 (add x_1:8 200:8))"), "add (extract 4 4 (add x_1:8 200:8))\n"}, {api.Event{Kind: api.EvAdd, Term: read(t, "x:8"), A: 1, B: 2}, "add x:8\n"}, {add(t, "?h:0"), "add ?h:0\n"}, {api.Event{Kind: api.EvAdd}, "add ?\n"}, {api.Event{Kind: api.EvAdd, Term: api.Term{Op: api.OpNot, Args: []api.Term{{Op: 99}}}}, "add (not ?)\n"},
		{union(0, 1), "union 0 1\n"}, {union(-30, 12), "union -30 12\n"}, {union(math.MinInt, math.MaxInt), "union -9223372036854775808 9223372036854775807\n"}, {api.Event{Kind: api.EvUnion, A: 5, B: 6, Term: read(t, "x:8")}, "union 5 6\n"},
		{rebuild, "rebuild\n"}, {api.Event{Kind: api.EvRebuild, A: 4, B: 5}, "rebuild\n"}, {mark, "mark\n"}, {api.Event{Kind: api.EvMark, A: 4, B: 5}, "mark\n"}, {undo(0), "undo 0\n"}, {undo(-1), "undo -1\n"}, {api.Event{Kind: api.EvUndo, A: 3, B: 4}, "undo 3\n"},
		{api.Event{}, "\n"}, {api.Event{Kind: 6, A: 1}, "\n"}, {api.Event{Kind: -1}, "\n"}, {api.Event{Kind: math.MaxInt}, "\n"},
	} {
		if s := journal.Format([]api.Event{x.event}); s != x.want {
			t.Errorf("case %d: %q, not %q", i, s, x.want)
		}
		if s := journal.Format([]api.Event{mark, x.event, rebuild}); s != "mark\n"+x.want+"rebuild\n" {
			t.Errorf("case %d: %q", i, s)
		}
	}
	if s := journal.Format(nil); s != "" {
		t.Errorf("%q", s)
	}
}

// TestParse checks texts without errors (P23.2).
func TestParse(t *testing.T) {
	for _, x := range []struct {
		text string
		want []api.Event
	}{
		{"", nil}, {"\n", nil}, {"\n\n\n", nil}, {"mark", []api.Event{mark}}, {"mark\n", []api.Event{mark}}, {"\n\nmark\n\n\nrebuild\n\n", []api.Event{mark, rebuild}},
		{"add (add x:8 1:8)\nunion -3 12\nrebuild\nmark\nundo 0", []api.Event{add(t, "(add x:8 1:8)"), union(-3, 12), rebuild, mark, undo(0)}},
		{"undo -9223372036854775808\nunion 0 9223372036854775807", []api.Event{undo(math.MinInt), union(0, math.MaxInt)}},
		{"add x:4\nadd x:8\nadd x:4", []api.Event{add(t, "x:4"), add(t, "x:8"), add(t, "x:4")}}, // only Play finds this
	} {
		if l, at, e := journal.Parse(x.text); !slices.EqualFunc(l, x.want, same) || at != 0 || e != api.OK {
			t.Errorf("%q: %v, %d, %d", x.text, l, at, e)
		}
	}
}

// balanced returns a sum of 2^depth variables.
func balanced(depth int) string {
	if depth == 0 {
		return "x:8"
	}
	half := balanced(depth - 1)
	return "(add " + half + " " + half + ")"
}

// TestParseErrors checks the errors of Parse and their lines (P23.2), and those that Run returns for them (P23.3).
func TestParseErrors(t *testing.T) {
	deep := strings.Repeat("(not ", 64) + "x:8" + strings.Repeat(")", 64)
	for _, x := range []struct {
		text string
		at   int
		want api.Errno
	}{
		{"mark ", 1, api.ErrParse}, {" mark", 1, api.ErrParse}, {"mark 0", 1, api.ErrParse}, {"Mark", 1, api.ErrParse}, {"marks", 1, api.ErrParse}, {"mark\r\nmark", 1, api.ErrParse}, {"mark\t", 1, api.ErrParse}, {"mark;", 1, api.ErrParse}, {"mark rebuild", 1, api.ErrParse}, {" ", 1, api.ErrParse}, {"\r", 1, api.ErrParse}, {"mark\n\n\n \nmark", 4, api.ErrParse}, {"\n\nfoo", 3, api.ErrParse}, {"mark\x00", 1, api.ErrParse}, {"\xff", 1, api.ErrParse},
		{"rebuild ", 1, api.ErrParse}, {"rebuild 1", 1, api.ErrParse}, {"rebuilt", 1, api.ErrParse},
		{"union", 1, api.ErrParse}, {"union ", 1, api.ErrParse}, {"union 1", 1, api.ErrParse}, {"union 1 ", 1, api.ErrParse}, {"union 1 2 ", 1, api.ErrParse}, {"union 1 2 3", 1, api.ErrParse}, {"union  1 2", 1, api.ErrParse}, {"union 1  2", 1, api.ErrParse}, {"union 1 02", 1, api.ErrParse}, {"union 1 +2", 1, api.ErrParse}, {"union -0 2", 1, api.ErrParse}, {"union 0x1 2", 1, api.ErrParse}, {"union 1 a", 1, api.ErrParse}, {"union 1,2", 1, api.ErrParse}, {"union 1 9223372036854775808", 1, api.ErrParse}, {"union -9223372036854775809 1", 1, api.ErrParse},
		{"undo", 1, api.ErrParse}, {"undo ", 1, api.ErrParse}, {"undo 1 2", 1, api.ErrParse}, {"undo 1 ", 1, api.ErrParse}, {"undo 00", 1, api.ErrParse}, {"undo --1", 1, api.ErrParse}, {"undo 99999999999999999999", 1, api.ErrParse},
		{"add", 1, api.ErrParse}, {"add ", 1, api.ErrParse}, {"addx:8", 1, api.ErrParse}, {"add\tx:8", 1, api.ErrParse}, {"add x", 1, api.ErrParse}, {"add (add x:8)", 1, api.ErrParse}, {"add (foo x:8)", 1, api.ErrParse}, {"add x:8 y:8", 1, api.ErrParse}, {"add (not x:8", 1, api.ErrParse}, {"add x:8)", 1, api.ErrParse}, {"add \x01", 1, api.ErrParse},
		{"mark\nadd X:8", 2, api.ErrName}, {"add x:65", 1, api.ErrRange}, {"add 256:8", 1, api.ErrWidth}, {"add (add x:8 y:4)", 1, api.ErrWidth}, {"add " + deep, 1, api.ErrLong},
		// Those of term.Check come next, also if the rest is not the text of the term.
		{"add x:0", 1, api.ErrWidth}, {"add  0:0", 1, api.ErrWidth}, {"add ?x:8", 1, api.ErrOp}, {"add (not  #c:8)", 1, api.ErrOp}, {"add (eval 1:8)", 1, api.ErrOp}, {"add (and x:8 (zext 8 x:4))", 1, api.ErrBind}, {"add (not " + balanced(11) + ")", 0, api.OK}, {"add (not (not " + balanced(11) + "))", 1, api.ErrLong},
		{"add  x:8", 1, api.ErrParse}, {"add x:8 ", 1, api.ErrParse}, {"add (not x:8 )", 1, api.ErrParse}, {"add ( not x:8)", 1, api.ErrParse}, {"add (not\tx:8)", 1, api.ErrParse}, {"add x:8;comment", 1, api.ErrParse}, {"add x:8\r", 1, api.ErrParse},
		// The first error counts.
		{"mark\nadd X:8\nfoo", 2, api.ErrName}, {"mark\nfoo\nadd X:8", 2, api.ErrParse},
		{strings.Repeat("\n", api.MaxText), 0, api.OK}, {strings.Repeat("\n", api.MaxText+1), 0, api.ErrLong}, {strings.Repeat("\n", api.MaxText-4) + "mark", 0, api.OK}, {strings.Repeat("\n", api.MaxText-4) + "park", api.MaxText - 3, api.ErrParse}, {"foo" + strings.Repeat("\n", api.MaxText), 0, api.ErrLong},
	} {
		l, at, e := journal.Parse(x.text)
		if at != x.at || e != x.want || e != api.OK && len(l) != 0 {
			t.Errorf("%.60q: %v, %d, %d, not %d, %d", x.text, l, at, e, x.at, x.want)
		}
		results, at, e := journal.Run(x.text)
		if at != x.at || e != x.want || e != api.OK && len(results) != 0 {
			t.Errorf("Run of %.60q: %v, %d, %d", x.text, results, at, e)
		}
	}
}

// TestRun checks P23.3: with an error of Play, the number is that of the event and not that of the line.
func TestRun(t *testing.T) {
	for _, x := range []struct {
		text string
		want []int
		at   int
		e    api.Errno
	}{
		{"", nil, 0, api.OK},
		{"\n\nunion 0 1\n", nil, 1, api.ErrRange},
		{"\nadd x:8\n\n\nadd y:8\nunion 0 5\nmark\n", []int{0, 1}, 3, api.ErrRange},
		{"add x:8\nadd x:4", []int{0}, 2, api.ErrBind},
		{"add x:8\nadd y:4\nmark\nunion 0 1", []int{0, 1, 0}, 4, api.ErrWidth},
		{"mark\nadd x:8\nundo 0\nundo 0\nadd x:4", []int{0, 0, 1, 0, 0}, 0, api.OK},
	} {
		if l, at, e := journal.Run(x.text); !slices.Equal(l, x.want) || at != x.at || e != x.e {
			t.Errorf("%q: %v, %d, %d", x.text, l, at, e)
		}
	}
}
