package runner

import (
	"saturate/analysis"
	"saturate/api"
	"saturate/apply"
	"saturate/scheduler"
	"saturate/search"
)

// What became of the search for the matches of a rule in an iteration.
const (
	skipped = iota // the rule was banned
	dropped        // they were too many, and the rule is banned from now on
	kept
)

// finding is the outcome of the search for the matches of a rule.
type finding struct {
	fate    int
	found   int         // their number, or -1 without a search
	matches []api.Match // those that were kept
}

// step performs an iteration and returns a reason to stop, or 0.
func (r *run) step(iter int) (api.Iteration, int) {
	table, ok := r.facts()
	if !ok {
		return api.Iteration{}, api.StopConflict
	}
	var it api.Iteration
	var findings []finding
	reader := search.NewReader(r.graph, table)
	for i := range r.rules {
		f := r.find(reader, i, iter)
		if f.fate != kept {
			it.Banned++
		}
		it.Found = append(it.Found, f.found)
		findings = append(findings, f)
	}
	applied, stop := r.apply(findings)
	for _, n := range applied {
		it.Unions += n
	}
	it.Applied = applied
	r.graph.Rebuild()
	it.Nodes, it.Classes = r.graph.Len(), r.graph.Count()
	if stop == 0 && it.Unions == 0 && it.Banned == 0 {
		stop = api.StopSaturated
	}
	return it, stop
}

// facts returns the facts of the classes, nil if there are none to be used, after
// adding the constants that they determine. It returns false if they contradict
// each other.
func (r *run) facts() (*analysis.Table, bool) {
	if !r.budget.Facts {
		return nil, true
	}
	_, e := analysis.Modify(r.graph)
	var table *analysis.Table
	if e == api.OK {
		table, e = analysis.Run(r.graph)
	}
	return table, e != api.ErrConflict
}

// find searches for the matches of a rule, unless it is banned.
func (r *run) find(reader *search.Reader, at, iter int) finding {
	if !scheduler.Ready(r.states[at], iter) {
		return finding{fate: skipped, found: -1}
	}
	// With an error there are no matches.
	l, _ := reader.All(r.rules[at], r.budget.Matches)
	state, ok := scheduler.Take(r.states[at], iter, len(l))
	r.states[at] = state
	if !ok {
		return finding{fate: dropped, found: len(l)}
	}
	return finding{fate: kept, found: len(l), matches: l}
}

// apply applies the rules to their matches and returns the numbers of unions, and a
// reason to stop, or 0.
func (r *run) apply(findings []finding) ([]int, int) {
	applied := make([]int, len(findings))
	for i, f := range findings {
		var all bool
		r.log, applied[i], all = apply.Extend(r.graph, r.rules, i, f.matches, r.log, r.budget.Nodes)
		if !all {
			return applied, api.StopNodes
		}
	}
	return applied, 0
}
