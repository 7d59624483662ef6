package learned

import (
	"slices"
	"strings"

	"saturate/api"
	"saturate/isa"
)

// The lines before the texts of the programs of a swap.
const (
	swapLine = "swap"
	toLine   = "to"
)

// Print is specified in P55.4.
func Print(l []api.Swap) string {
	var text strings.Builder
	for _, s := range l {
		text.WriteString(swapLine + "\n" + isa.Print(s.From))
		text.WriteString(toLine + "\n" + isa.Print(s.To))
	}
	return text.String()
}

// Parse is specified in P55.4.
func Parse(s string) ([]api.Swap, int, api.Errno) {
	var l []api.Swap
	lines := slices.Collect(strings.Lines(s))
	for len(lines) > 0 {
		end := 1 + before(swapLine, lines[1:])
		swap, e := read(lines[:end])
		if e == api.OK && len(l) > 0 && Compare(swap, l[len(l)-1]) <= 0 {
			e = api.ErrDup
		}
		if e != api.OK {
			return nil, len(l) + 1, e
		}
		l = append(l, swap)
		lines = lines[end:]
	}
	return l, 0, api.OK
}

// before returns the number of lines before the first one that consists of a word.
func before(word string, lines []string) int {
	at := slices.IndexFunc(lines, func(line string) bool { return strings.TrimSuffix(line, "\n") == word })
	if at < 0 {
		return len(lines)
	}
	return at
}

// read returns the valid swap with some lines, of which there is at least one.
func read(lines []string) (api.Swap, api.Errno) {
	middle := before(toLine, lines)
	if before(swapLine, lines) > 0 || middle == len(lines) {
		return api.Swap{}, api.ErrParse
	}
	first, second := lines[1:middle], lines[middle+1:]
	if before(toLine, second) < len(second) {
		return api.Swap{}, api.ErrParse
	}
	from, _, e := isa.Parse(strings.Join(first, ""))
	if e != api.OK {
		return api.Swap{}, e
	}
	to, _, e := isa.Parse(strings.Join(second, ""))
	if e != api.OK {
		return api.Swap{}, e
	}
	swap := api.Swap{Width: from.Width, From: from, To: to}
	if e := Valid(swap); e != api.OK {
		return api.Swap{}, e
	}
	return swap, api.OK
}
