package snapshot

import (
	"saturate/api"
)

// head begins every encoding.
const head = "EG\x01"

// writer appends the parts of an encoding.
type writer struct {
	bytes []byte
}

// number appends a number that is not negative.
func (w *writer) number(x uint64) {
	for ; x >= 128; x >>= 7 {
		w.bytes = append(w.bytes, byte(x)|128)
	}
	w.bytes = append(w.bytes, byte(x))
}

// signed appends a signed number.
func (w *writer) signed(n int) {
	x := uint64(n) << 1
	if n < 0 {
		x = ^x // -2n - 1
	}
	w.number(x)
}

// list appends the number of some ids and the ids.
func (w *writer) list(ids []int) {
	w.number(uint64(len(ids)))
	for _, id := range ids {
		w.signed(id)
	}
}

func (w *writer) node(n api.Node) {
	w.signed(int(n.Op))
	w.signed(n.Width)
	w.number(n.Val)
	w.number(uint64(len(n.Name)))
	w.bytes = append(w.bytes, n.Name...)
	w.list(n.Args)
}

// Encode is specified in P22.1.
func Encode(d api.Dump) []byte {
	w := &writer{[]byte(head)}
	w.number(uint64(len(d.Nodes)))
	for _, n := range d.Nodes {
		w.node(n)
	}
	w.number(uint64(len(d.Links)))
	for _, l := range d.Links {
		w.signed(l.A)
		w.signed(l.B)
		w.signed(l.Why)
	}
	w.list(d.Roots)
	sum := Sum(w.bytes)
	return append(w.bytes, byte(sum>>24), byte(sum>>16), byte(sum>>8), byte(sum))
}
