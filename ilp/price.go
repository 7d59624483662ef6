package ilp

import (
	"cmp"
	"math"
	"math/bits"

	"saturate/api"
)

// price is a number of 128 bits by which solutions are compared: the cost is
// its upper half. The lower half is the rank, to which an earlier variable adds
// more than all later ones together. Thus no two solutions have the same price,
// and of those of equal cost the lexicographically least one has the least.
type price struct {
	cost, rank uint64
}

// unlimited is greater than the price of any solution.
func unlimited() price {
	return price{math.MaxUint64, math.MaxUint64}
}

func (a price) plus(b price) price {
	rank, carry := bits.Add64(a.rank, b.rank, 0)
	return price{a.cost + b.cost + carry, rank}
}

// minus returns the difference to a price that is not greater.
func (a price) minus(b price) price {
	rank, borrow := bits.Sub64(a.rank, b.rank, 0)
	return price{a.cost - b.cost - borrow, rank}
}

// times returns the product with a number that is not negative.
func (a price) times(n int64) price {
	carry, rank := bits.Mul64(a.rank, uint64(n))
	return price{a.cost*uint64(n) + carry, rank}
}

// over returns the quotient by a positive number, rounded down.
func (a price) over(n int64) price {
	rest := a.cost % uint64(n)
	rank, _ := bits.Div64(rest, a.rank, uint64(n))
	return price{a.cost / uint64(n), rank}
}

func (a price) compare(b price) int {
	return cmp.Or(cmp.Compare(a.cost, b.cost), cmp.Compare(a.rank, b.rank))
}

func (a price) less(b price) bool {
	return a.compare(b) < 0
}

// prices has what each variable adds to the price of a solution if it is true.
type prices [api.MaxVars]price

func pricesOf(costs []int64) prices {
	var p prices
	for i, cost := range costs {
		p[i] = price{uint64(cost), 1 << (api.MaxVars - 1 - i)}
	}
	return p
}

// of returns the price of a solution.
func (p *prices) of(chosen set) price {
	var sum price
	for v := range chosen.all() {
		sum = sum.plus(p[v])
	}
	return sum
}
