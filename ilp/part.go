package ilp

import (
	"cmp"
	"slices"

	"saturate/api"
)

// part has rows that share no variables with other rows, so that it can be
// solved on its own.
type part struct {
	rows  []row
	bound price  // no solution has a lower price
	left  prices // what the bound leaves of the prices of the variables
}

// split returns the parts of rows, without those whose cheapest solution is
// that all variables are false.
func split(rows []row, all *prices) []part {
	var parts []part
	for len(rows) > 0 {
		vars := connected(rows)
		var mine, others []row
		for _, r := range rows {
			if r.vars()&vars != 0 {
				mine = append(mine, r)
			} else {
				others = append(others, r)
			}
		}
		if slices.ContainsFunc(mine, row.urgent) {
			parts = append(parts, newPart(mine, all))
		}
		rows = others
	}
	return parts
}

// connected returns the variables of the first row and of all rows that are
// connected to it by common variables.
func connected(rows []row) set {
	vars := rows[0].vars()
	for {
		before := vars
		for _, r := range rows {
			if r.vars()&vars != 0 {
				vars |= r.vars()
			}
		}
		if vars == before {
			return vars
		}
	}
}

func newPart(rows []row, all *prices) part {
	p := part{rows: rows, left: *all}
	urgent := slices.DeleteFunc(slices.Clone(rows), func(r row) bool { return !r.urgent() })
	slices.SortStableFunc(urgent, func(a, b row) int { return cmp.Compare(a.pos.size(), b.pos.size()) })
	for _, r := range urgent {
		p.bound = p.bound.plus(p.left.pay(r))
	}
	return p
}

// pay returns a price that the variables of an urgent row cost at least, and
// takes the share of each variable from its price, so that other rows do not
// count it again. A share is the same for each unit of weight, except for a
// variable that is too cheap and gives all it has.
func (p *prices) pay(r row) price {
	need := r.need - r.weigh(r.neg)
	unit := p.unit(r, need)
	rest := need
	var sum price
	for v := range r.pos.all() {
		weight := min(r.weight(v), need)
		share := unit.times(weight)
		if p[v].less(share) {
			share = p[v]
			sum = sum.plus(share)
			rest -= weight
		}
		p[v] = p[v].minus(share)
	}
	return sum.plus(unit.times(rest))
}

// unit returns the price of a unit of weight of the last variable that is
// chosen, if variables are chosen for their low prices until need is reached.
func (p *prices) unit(r row, need int64) price {
	type offer struct {
		unit   price
		weight int64
	}
	offers := make([]offer, 0, api.MaxVars)
	for v := range r.pos.all() {
		weight := min(r.weight(v), need)
		offers = append(offers, offer{p[v].over(weight), weight})
	}
	slices.SortFunc(offers, func(a, b offer) int { return a.unit.compare(b.unit) })
	last := 0
	for need > offers[last].weight {
		need -= offers[last].weight
		last++
	}
	return offers[last].unit
}

// costly returns the variables that are false in every solution whose price is
// below the limit.
func (p *part) costly(limit price, all *prices) set {
	var costly set
	for _, r := range p.rows {
		for v := range r.vars().all() {
			if !all[v].less(limit) || !p.bound.plus(p.left[v]).less(limit) {
				costly |= one(v)
			}
		}
	}
	return costly
}

// decisive returns the variable to branch on: of the shortest urgent row, the
// one that the most urgent rows have, or the cheapest one of these.
func (p *part) decisive(all *prices) int {
	var shortest row
	var count [api.MaxVars]int
	for _, r := range p.rows {
		if !r.urgent() {
			continue
		}
		if shortest.pos == 0 || r.pos.size() < shortest.pos.size() {
			shortest = r
		}
		for v := range r.pos.all() {
			count[v]++
		}
	}
	return slices.MinFunc(slices.Collect(shortest.pos.all()), func(a, b int) int {
		return cmp.Or(cmp.Compare(count[b], count[a]), all[a].compare(all[b]))
	})
}
