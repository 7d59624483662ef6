package machine

import (
	"slices"
)

// collection collects keys, of which only the least different ones count.
type collection struct {
	most  int
	keys  [][]uint64
	bound []uint64 // the greatest key that counts, if there are enough of them
}

func (c *collection) add(key []uint64) {
	c.keys = append(c.keys, key)
	if len(c.keys) >= 2*c.most {
		c.tidy()
	}
}

// tidy removes the keys that do not count.
func (c *collection) tidy() {
	slices.SortFunc(c.keys, slices.Compare[[]uint64])
	c.keys = slices.CompactFunc(c.keys, slices.Equal[[]uint64])
	if len(c.keys) >= c.most {
		c.keys = c.keys[:c.most]
		c.bound = c.keys[c.most-1]
	}
}

// first returns the keys that count in increasing order.
func (c *collection) first() [][]uint64 {
	c.tidy()
	return c.keys
}
