package snapshot

import (
	"saturate/api"
)

// sumBytes is the number of bytes of the checksum.
const sumBytes = 4

// reader reads the parts of an encoding.
type reader struct {
	rest []byte
}

// malformed is the panic by which a reader gives up.
type malformed struct{}

// require gives up unless a condition of the encoding holds.
func require(ok bool) {
	if !ok {
		panic(malformed{})
	}
}

// take returns the next n bytes.
func (r *reader) take(n int) []byte {
	next := r.rest[:n]
	r.rest = r.rest[n:]
	return next
}

// number reads a number that is not negative.
func (r *reader) number() uint64 {
	var x uint64
	for shift := 0; ; shift += 7 {
		require(len(r.rest) > 0)
		b := uint64(r.take(1)[0])
		group := b & 127
		require(group<<shift>>shift == group) // no bit is lost beyond the highest one
		x |= group << shift
		if b < 128 {
			require(b > 0 || shift == 0) // there are no bytes without need
			return x
		}
	}
}

// signed reads a signed number.
func (r *reader) signed() int {
	x := r.number()
	n := int64(x >> 1)
	if x&1 == 1 {
		n = ^n // -(x + 1) / 2
	}
	require(int64(int(n)) == n)
	return int(n)
}

// count reads the number of things that follow, which have at least one byte each.
func (r *reader) count() int {
	n := r.number()
	require(n <= uint64(len(r.rest)))
	return int(n)
}

// list reads ids and, before them, their number.
func (r *reader) list() []int {
	var ids []int
	for range r.count() {
		ids = append(ids, r.signed())
	}
	return ids
}

func (r *reader) node() api.Node {
	n := api.Node{Op: api.Op(r.signed()), Width: r.signed(), Val: r.number()}
	n.Name = string(r.take(r.count()))
	n.Args = r.list()
	return n
}

func (r *reader) dump() api.Dump {
	var d api.Dump
	for range r.count() {
		d.Nodes = append(d.Nodes, r.node())
	}
	for range r.count() {
		d.Links = append(d.Links, api.Link{A: r.signed(), B: r.signed(), Why: r.signed()})
	}
	d.Roots = r.list()
	require(len(r.rest) == 0)
	return d
}

// Decode is specified in P22.2.
func Decode(b []byte) (d api.Dump, e api.Errno) {
	if len(b) < len(head)+sumBytes || string(b[:len(head)]) != head {
		return api.Dump{}, api.ErrForm
	}
	content, sum := b[:len(b)-sumBytes], uint32(0)
	for _, x := range b[len(content):] {
		sum = sum<<8 | uint32(x)
	}
	if sum != Sum(content) {
		return api.Dump{}, api.ErrSum
	}
	defer func() {
		if _, ok := recover().(malformed); ok {
			d, e = api.Dump{}, api.ErrForm
		}
	}()
	r := &reader{content[len(head):]}
	return r.dump(), api.OK
}
