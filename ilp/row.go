package ilp

import (
	"iter"
	"math/bits"

	"saturate/api"
)

// set is a set of variables: bit i stands for variable i.
type set uint64

// one returns the set of a single variable.
func one(variable int) set {
	return 1 << variable
}

func (s set) size() int {
	return bits.OnesCount64(uint64(s))
}

// all yields the variables in increasing order.
func (s set) all() iter.Seq[int] {
	return func(yield func(int) bool) {
		for ; s != 0; s &= s - 1 {
			if !yield(bits.TrailingZeros64(uint64(s))) {
				return
			}
		}
	}
}

// row is a constraint on open variables. Each of them is a literal: one in pos
// holds if the variable is true, one in neg if it is false. The weights of the
// literals that hold must add up to need, which is greater than 0. If need is
// 1, any literal is enough, and weights is not used.
type row struct {
	pos, neg set
	need     int64
	weights  *[api.MaxVars]int64
}

// anyOf returns the row that wants one of the variables to be true.
func anyOf(vars set) row {
	return row{pos: vars, need: 1}
}

// rowsOf returns the rows of a problem, without those that hold anyway.
func rowsOf(p api.Problem) []row {
	var rows []row
	for _, source := range p.Rows {
		r := row{need: source.Least, weights: &[api.MaxVars]int64{}}
		for _, c := range source.Coefs {
			if c.By > 0 {
				r.pos |= one(c.Var)
				r.weights[c.Var] = c.By
			} else {
				r.neg |= one(c.Var)
				r.weights[c.Var] = -c.By
				r.need -= c.By // what is not lost counts as won
			}
		}
		rows = append(rows, r)
	}
	return assign(rows, 0, 0)
}

// assign returns what rows require of the other variables if some are true and
// some false.
func assign(rows []row, ones, zeros set) []row {
	rest := make([]row, 0, len(rows))
	for _, r := range rows {
		r.need -= r.weigh(r.pos&ones | r.neg&zeros)
		r.pos &^= ones | zeros
		r.neg &^= ones | zeros
		if r.need > 0 {
			rest = append(rest, r.simplified())
		}
	}
	return rest
}

// simplified returns the same constraint with need 1 if any literal is enough.
func (r row) simplified() row {
	for v := range r.vars().all() {
		if r.weight(v) < r.need {
			return r
		}
	}
	r.need = 1
	return r
}

func (r row) vars() set {
	return r.pos | r.neg
}

func (r row) weight(v int) int64 {
	if r.need == 1 {
		return 1
	}
	return r.weights[v]
}

// weigh returns the sum of the weights of literals.
func (r row) weigh(literals set) int64 {
	if r.need == 1 {
		return int64(literals.size())
	}
	sum := int64(0)
	for v := range literals.all() {
		sum += r.weights[v]
	}
	return sum
}

// urgent reports whether the row does not hold if all variables are false.
func (r row) urgent() bool {
	return r.weigh(r.neg) < r.need
}

// implies reports whether b holds wherever r does. It does not always find out.
func (r row) implies(b row) bool {
	return r.need == 1 && b.need == 1 && r.pos&^b.pos == 0 && r.neg&^b.neg == 0
}

// force returns values without which the row cannot hold any more under a
// partial assignment, and whether it can hold at all.
func (r row) force(ones, zeros set) (trues, falses set, ok bool) {
	pos, neg := r.pos&^zeros, r.neg&^ones // they hold or may still hold
	if r.need == 1 {
		if (pos | neg).size() > 1 {
			return 0, 0, true
		}
		return pos, neg, pos|neg != 0
	}
	spare := r.weigh(pos|neg) - r.need
	open := (pos | neg) &^ (ones | zeros)
	for v := range open.all() {
		if r.weights[v] > spare {
			trues |= pos & one(v)
			falses |= neg & one(v)
		}
	}
	return trues, falses, spare >= 0
}

// settle extends a partial assignment by all that single rows force, and
// reports whether no row contradicts it. It does what Propagate does, but many
// times in one search, and therefore in another order.
func settle(rows []row, ones, zeros set) (set, set, bool) {
settling:
	for {
		before := ones | zeros
		for _, r := range rows {
			trues, falses, ok := r.force(ones, zeros)
			if !ok {
				break settling
			}
			ones |= trues
			zeros |= falses
		}
		if ones|zeros == before {
			return ones, zeros, true
		}
	}
	return 0, 0, false
}
