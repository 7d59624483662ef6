package journal

import (
	"strings"

	"saturate/api"
	"saturate/digits"
	"saturate/term"
	"saturate/termtext"
)

// The first words of lines.
const (
	addWord     = "add"
	unionWord   = "union"
	rebuildWord = "rebuild"
	markWord    = "mark"
	undoWord    = "undo"
)

// Format is specified in P23.2.
func Format(l []api.Event) string {
	var text strings.Builder
	for _, event := range l {
		text.WriteString(lineOf(event))
		text.WriteByte('\n')
	}
	return text.String()
}

// lineOf returns the line of an event without its line feed, which is empty for an
// event of an unknown kind.
func lineOf(event api.Event) string {
	switch event.Kind {
	case api.EvAdd:
		return addWord + " " + termtext.Print(event.Term)
	case api.EvUnion:
		return unionWord + " " + digits.List(event.A, event.B)
	case api.EvRebuild:
		return rebuildWord
	case api.EvMark:
		return markWord
	case api.EvUndo:
		return undoWord + " " + digits.Int(event.A)
	}
	return ""
}

// Parse is specified in P23.2.
func Parse(text string) ([]api.Event, int, api.Errno) {
	if len(text) > api.MaxText {
		return nil, 0, api.ErrLong
	}
	var l []api.Event
	number := 0
	for line := range strings.SplitSeq(text, "\n") {
		number++
		if line == "" {
			continue
		}
		event, e := read(line)
		if e != api.OK {
			return nil, number, e
		}
		l = append(l, event)
	}
	return l, 0, api.OK
}

// read returns the event with a line.
func read(line string) (api.Event, api.Errno) {
	word, rest, _ := strings.Cut(line, " ")
	event := api.Event{}
	e := api.OK
	switch word {
	case addWord:
		event.Kind = api.EvAdd
		event.Term, e = readTerm(rest)
	case unionWord:
		event.Kind = api.EvUnion
		e = readNumbers(rest, &event.A, &event.B)
	case rebuildWord:
		event.Kind = api.EvRebuild
	case markWord:
		event.Kind = api.EvMark
	case undoWord:
		event.Kind = api.EvUndo
		e = readNumbers(rest, &event.A)
	}
	switch {
	case e != api.OK:
		return api.Event{}, e
	case lineOf(event) != line:
		return api.Event{}, api.ErrParse
	}
	return event, api.OK
}

// readTerm returns the valid term with a text, which may have several texts here.
func readTerm(s string) (api.Term, api.Errno) {
	t, e := termtext.Parse(s)
	if e == api.OK {
		e = term.Check(t)
	}
	return t, e
}

// readNumbers reads numerals into as many numbers.
func readNumbers(s string, numbers ...*int) api.Errno {
	l, e := digits.ParseList(s)
	if e != api.OK || len(l) != len(numbers) {
		return api.ErrParse
	}
	for k, n := range l {
		*numbers[k] = n
	}
	return api.OK
}
