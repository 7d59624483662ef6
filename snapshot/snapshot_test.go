package snapshot_test

import (
	"bytes"
	"hash/adler32"
	"math"
	"math/rand/v2"
	"slices"
	"strconv"
	"testing"

	"saturate/api"
	"saturate/egraph"
	"saturate/snapshot"
)

func variable(name string, width int) api.Node {
	return api.Node{Op: api.OpVar, Width: width, Name: name}
}

// node returns a node of width 8.
func node(op api.Op, args ...int) api.Node {
	return api.Node{Op: op, Width: 8, Args: args}
}

// sealed returns the encoding that has the given text between its first bytes and its checksum.
func sealed(s string) []byte {
	b := []byte("EG\x01" + s)
	sum := adler32.Checksum(b)
	return append(b, byte(sum>>24), byte(sum>>16), byte(sum>>8), byte(sum))
}

// good returns a dump without flaws: a and b are joined, and so are (not a) and (not b).
func good() api.Dump {
	return api.Dump{
		Nodes: []api.Node{variable("a", 8), variable("b", 8), node(api.OpNot, 0), node(api.OpNot, 1), {Op: api.OpConst, Width: 64, Val: math.MaxUint64}},
		Links: []api.Link{{A: 1, B: 0, Why: 7}, {A: 2, B: 3, Why: api.WhyCongruent}},
		Roots: []int{0, 0, 2, 2, 4},
	}
}

// TestExample checks the example of chapter 22.
func TestExample(t *testing.T) {
	want := sealed("\x00\x00\x00")
	for _, d := range []api.Dump{{}, {Nodes: []api.Node{}, Links: []api.Link{}, Roots: []int{}}} {
		if b := snapshot.Encode(d); !bytes.Equal(b, want) || len(b) != 10 {
			t.Error(b)
		}
	}
	if d, e := snapshot.Decode(want); e != api.OK || !snapshot.Same(d, api.Dump{}) {
		t.Error(d, e)
	}
	if g, e := snapshot.Load(want); e != api.OK || g.Len() != 0 || !g.Made() {
		t.Error(e)
	}
}

// TestSum checks Sum of P22.1.
func TestSum(t *testing.T) {
	r := rand.New(rand.NewPCG(22, 1))
	for _, n := range []int{0, 1, 2, 10, 255, 256, 257, 5552, 5553, 65520, 65521, 65522, 200000} {
		for _, fill := range []byte{0, 1, 255} {
			b := bytes.Repeat([]byte{fill}, n)
			if s := snapshot.Sum(b); s != adler32.Checksum(b) {
				t.Errorf("the sum of %d bytes %d is %d", n, fill, s)
			}
		}
		b := make([]byte, n)
		for i := range b {
			b[i] = byte(r.Uint32())
		}
		if s := snapshot.Sum(b); s != adler32.Checksum(b) {
			t.Errorf("the sum of %d random bytes is %d", n, s)
		}
	}
	if s := snapshot.Sum(nil); s != 1 {
		t.Error(s)
	}
}

// TestNumbers checks how P22.1 encodes numbers, and that P22.2 reads them again.
func TestNumbers(t *testing.T) {
	for n, want := range map[int]string{
		0: "\x00", -1: "\x01", 1: "\x02", 63: "\x7e", -64: "\x7f", 64: "\x80\x01", -65: "\x81\x01", 8191: "\xfe\x7f", -8192: "\xff\x7f", 8192: "\x80\x80\x01",
		math.MaxInt: "\xfe\xff\xff\xff\xff\xff\xff\xff\xff\x01", math.MinInt: "\xff\xff\xff\xff\xff\xff\xff\xff\xff\x01",
	} {
		d := api.Dump{Roots: []int{n}}
		if b := snapshot.Encode(d); !bytes.Equal(b, sealed("\x00\x00\x01"+want)) {
			t.Errorf("%d: %q", n, b)
		}
		if back, e := snapshot.Decode(sealed("\x00\x00\x01" + want)); e != api.OK || !snapshot.Same(d, back) {
			t.Errorf("%d: %v, %d", n, back, e)
		}
	}
	for val, want := range map[uint64]string{0: "\x00", 1: "\x01", 127: "\x7f", 128: "\x80\x01", 16383: "\xff\x7f", 16384: "\x80\x80\x01", math.MaxInt64: "\xff\xff\xff\xff\xff\xff\xff\xff\x7f", 1 << 63: "\x80\x80\x80\x80\x80\x80\x80\x80\x80\x01", math.MaxUint64: "\xff\xff\xff\xff\xff\xff\xff\xff\xff\x01"} {
		d := api.Dump{Nodes: []api.Node{{Val: val}}}
		text := "\x01\x00\x00" + want + "\x00\x00\x00\x00"
		if b := snapshot.Encode(d); !bytes.Equal(b, sealed(text)) {
			t.Errorf("%d: %q", val, b)
		}
		if back, e := snapshot.Decode(sealed(text)); e != api.OK || !snapshot.Same(d, back) {
			t.Errorf("%d: %v, %d", val, back, e)
		}
	}
}

// TestParts checks the order of the parts of an encoding (P22.1).
func TestParts(t *testing.T) {
	d := api.Dump{
		Nodes: []api.Node{{Op: 1, Width: 2, Val: 3, Name: "n\x00\xff", Args: []int{4, -5}}, {Op: -1, Width: -2}},
		Links: []api.Link{{A: 6, B: -7, Why: 8}, {}},
		Roots: []int{9, -10, 11},
	}
	text := "\x02" + "\x02\x04\x03\x03n\x00\xff\x02\x08\x09" + "\x01\x03\x00\x00\x00" + "\x02" + "\x0c\x0d\x10" + "\x00\x00\x00" + "\x03\x12\x13\x16"
	if b := snapshot.Encode(d); !bytes.Equal(b, sealed(text)) {
		t.Errorf("%q", b)
	}
	if back, e := snapshot.Decode(sealed(text)); e != api.OK || !snapshot.Same(d, back) {
		t.Error(back, e)
	}
	long := api.Dump{Nodes: []api.Node{{Name: string(bytes.Repeat([]byte{'a'}, 300)), Args: make([]int, 200)}}}
	if back, e := snapshot.Decode(snapshot.Encode(long)); e != api.OK || !snapshot.Same(long, back) {
		t.Error(e)
	}
}

// TestSame checks Same of P22.1.
func TestSame(t *testing.T) {
	if !snapshot.Same(good(), good()) || !snapshot.Same(api.Dump{}, api.Dump{Nodes: []api.Node{}, Roots: []int{}}) || !snapshot.Same(api.Dump{Nodes: []api.Node{{Args: []int{}}}}, api.Dump{Nodes: []api.Node{{}}}) {
		t.Error("equal dumps differ")
	}
	for i, change := range []func(d *api.Dump){
		func(d *api.Dump) { d.Nodes[0].Op = 2 }, func(d *api.Dump) { d.Nodes[1].Width = 9 }, func(d *api.Dump) { d.Nodes[4].Val-- }, func(d *api.Dump) { d.Nodes[1].Name = "c" }, func(d *api.Dump) { d.Nodes[3].Args[0] = 0 }, func(d *api.Dump) { d.Nodes[3].Args = append(d.Nodes[3].Args, 0) }, func(d *api.Dump) { d.Nodes[3].Args = nil }, func(d *api.Dump) { d.Nodes = d.Nodes[:4] },
		func(d *api.Dump) { d.Links[0].A = 2 }, func(d *api.Dump) { d.Links[1].B = 2 }, func(d *api.Dump) { d.Links[1].Why = 0 }, func(d *api.Dump) { d.Links = d.Links[:1] }, func(d *api.Dump) { d.Links[0], d.Links[1] = d.Links[1], d.Links[0] },
		func(d *api.Dump) { d.Roots[4] = 3 }, func(d *api.Dump) { d.Roots = append(d.Roots, 5) }, func(d *api.Dump) { d.Roots = nil }, func(d *api.Dump) { *d = api.Dump{} },
	} {
		d := good()
		change(&d)
		if snapshot.Same(d, good()) || snapshot.Same(good(), d) {
			t.Errorf("change %d makes no difference", i)
		}
		if bytes.Equal(snapshot.Encode(d), snapshot.Encode(good())) {
			t.Errorf("change %d does not change the encoding", i)
		}
	}
}

// checkDecode checks the error of Decode and of Load.
func checkDecode(t *testing.T, b []byte, want api.Errno) {
	t.Helper()
	if d, e := snapshot.Decode(b); e != want || !snapshot.Same(d, api.Dump{}) {
		t.Errorf("Decode of %q is %v, %d, not %d", b, d, e, want)
	}
	if g, e := snapshot.Load(b); g != nil || e != want {
		t.Errorf("Load of %q is %d, not %d", b, e, want)
	}
}

// TestDecodeErrors checks the errors of P22.2 and their order.
func TestDecodeErrors(t *testing.T) {
	for _, s := range []string{"", "E", "EG\x01", "EG\x01\x00\x00\x00", "XG\x01\x00\x00\x00\x00", "EX\x01\x00\x00\x00\x00", "EG\x00\x00\x00\x00\x00", "EG\x02\x00\x00\x00\x00", "eg\x01\x00\x00\x00\x00\x00\x00\x00", "\x00EG\x01\x00\x00\x00\x00\x00"} {
		checkDecode(t, []byte(s), api.ErrForm)
	}
	checkDecode(t, nil, api.ErrForm)
	for _, s := range []string{"EG\x01\x00\x00\x00\x00", "EG\x01\xff\xff\xff\xff\xff\xff", "EG\x01\x00\x00\x00\x03\x0b\x00\x8f", "EG\x01\x00\x00\x00\x8e\x00\x0b\x03"} {
		checkDecode(t, []byte(s), api.ErrSum)
	}
	checkDecode(t, append(snapshot.Encode(good()), 0), api.ErrSum)
	for _, s := range []string{
		// Too little and too much.
		"", "\x00", "\x00\x00", "\x00\x00\x00\x00", "\x00\x00\x01", "\x00\x01\x00\x00", "\x01\x00\x00\x00\x00", "\x01\x00\x00\x00\x01", "\x00\x00\x01\x00\x00", "\x80", "\x00\x00\x80",
		// Counts that are too great.
		"\x01\x00\x00", "\x00\x02\x00\x00\x00", "\x00\x00\x02\x00", "\x01\x00\x00\x00\x05ab\x00\x00\x00", "\x01\x00\x00\x00\x00\x03\x00\x00", "\xff\xff\xff\xff\xff\xff\xff\xff\xff\x01\x00\x00", "\x00\x80\x80\x80\x80\x80\x80\x80\x80\x80\x01", "\x00\x00\xff\xff\xff\xff\xff\xff\xff\xff\x7f", "\x01\x00\x00\x00\xff\xff\xff\xff\xff\xff\xff\xff\xff\x01\x00\x00\x00",
		// Numbers that are not of minimal length.
		"\x80\x00\x00\x00", "\x00\x80\x80\x00\x00", "\x00\x00\x01\x80\x00", "\x00\x00\x01\xff\x80\x00", "\x00\x00\x01\xff\xff\xff\xff\xff\xff\xff\xff\xff\x80\x00", "\x01\x00\x00\x80\x00\x00\x00\x00\x00",
		// Numbers of 2^64 or more, or of more than ten bytes.
		"\x00\x00\x01\xff\xff\xff\xff\xff\xff\xff\xff\xff\x02", "\x00\x00\x01\x80\x80\x80\x80\x80\x80\x80\x80\x80\x02", "\x00\x00\x01\xff\xff\xff\xff\xff\xff\xff\xff\xff\x7f", "\x00\x00\x01\xff\xff\xff\xff\xff\xff\xff\xff\xff\x81\x01", "\x00\x00\x01\x80\x80\x80\x80\x80\x80\x80\x80\x80\x80\x01", "\x00\x00\x01\x80\x80\x80\x80\x80\x80\x80\x80\x80\x80\x80\x80\x80\x80\x01", "\x01\x00\x00\x80\x80\x80\x80\x80\x80\x80\x80\x80\x80\x01\x00\x00\x00\x00",
	} {
		checkDecode(t, sealed(s), api.ErrForm)
	}
	// A beginning, and an encoding with something after it.
	b := snapshot.Encode(good())
	content := string(b[3 : len(b)-4])
	for n := range content {
		checkDecode(t, sealed(content[:n]), api.ErrForm)
	}
	checkDecode(t, sealed(content+"\x00"), api.ErrForm)
}

// TestChangedByte checks P22.5: an encoding with one other byte is not accepted.
func TestChangedByte(t *testing.T) {
	b := snapshot.Encode(good())
	for at := range b {
		for change := 1; change < 256; change++ {
			changed := slices.Clone(b)
			changed[at] ^= byte(change)
			want := api.ErrSum
			if at < 3 {
				want = api.ErrForm
			}
			if d, e := snapshot.Decode(changed); e != want || !snapshot.Same(d, api.Dump{}) {
				t.Fatalf("byte %d: %v, %d", at, d, e)
			}
		}
	}
}

// randomInt returns numbers of all sizes.
func randomInt(r *rand.Rand) int {
	return int(r.Uint64()) >> r.IntN(64)
}

func randomInts(r *rand.Rand) []int {
	var l []int
	for range r.IntN(4) {
		l = append(l, randomInt(r))
	}
	return l
}

// TestInverse checks P22.5 for arbitrary dumps, and that Decode accepts nothing but encodings.
func TestInverse(t *testing.T) {
	r := rand.New(rand.NewPCG(22, 2))
	for range 3000 {
		var d api.Dump
		for range r.IntN(5) {
			name := make([]byte, r.IntN(4))
			for i := range name {
				name[i] = byte(r.Uint32())
			}
			d.Nodes = append(d.Nodes, api.Node{Op: api.Op(randomInt(r)), Width: randomInt(r), Val: r.Uint64() >> r.IntN(64), Name: string(name), Args: randomInts(r)})
		}
		for range r.IntN(4) {
			d.Links = append(d.Links, api.Link{A: randomInt(r), B: randomInt(r), Why: randomInt(r)})
		}
		d.Roots = randomInts(r)
		b := snapshot.Encode(d)
		if back, e := snapshot.Decode(b); e != api.OK || !snapshot.Same(d, back) {
			t.Fatalf("%v, %d, not %v", back, e, d)
		}
		content := b[3 : len(b)-4]
		content[r.IntN(len(content))] = byte(r.Uint32() >> r.IntN(30))
		changed := sealed(string(content))
		if back, e := snapshot.Decode(changed); e == api.OK && !bytes.Equal(snapshot.Encode(back), changed) || e != api.OK && e != api.ErrForm {
			t.Fatalf("Decode of %q is %v, %d", changed, back, e)
		}
	}
}

// TestRestoreErrors checks the errors of P22.3 and their order.
func TestRestoreErrors(t *testing.T) {
	for i, change := range []func(d *api.Dump){
		func(d *api.Dump) { d.Nodes[0].Op = 0 }, func(d *api.Dump) { d.Nodes[1].Name = "B" }, func(d *api.Dump) { d.Nodes[2].Args[0] = 2 }, func(d *api.Dump) { d.Nodes[2].Args[0] = -1 }, func(d *api.Dump) { d.Nodes[4].Width = 65 }, func(d *api.Dump) { d.Nodes[2].Width = 7 }, func(d *api.Dump) { d.Nodes[1].Name = "a" }, func(d *api.Dump) { d.Nodes[1] = variable("a", 4) },
		func(d *api.Dump) { d.Links[0].A = 5 }, func(d *api.Dump) { d.Links[0].B = 1 }, func(d *api.Dump) { d.Links[1] = api.Link{A: 0, B: 1, Why: 3} }, func(d *api.Dump) { d.Links[1].B = 4 }, func(d *api.Dump) { d.Links[0].Why = api.WhyCongruent }, func(d *api.Dump) { d.Links[0], d.Links[1] = d.Links[1], d.Links[0] }, func(d *api.Dump) { d.Links = d.Links[:1] },
		func(d *api.Dump) { d.Roots[1] = 1 }, func(d *api.Dump) { d.Roots = d.Roots[:4] }, func(d *api.Dump) { d.Roots = append(d.Roots, 5) }, func(d *api.Dump) { d.Roots = nil },
	} {
		d := good()
		change(&d)
		if g, e := snapshot.Restore(d); g != nil || e != api.ErrForm {
			t.Errorf("change %d: %d", i, e)
		}
		if g, e := snapshot.Load(snapshot.Encode(d)); g != nil || e != api.ErrForm {
			t.Errorf("change %d: Load is %d", i, e)
		}
	}
	var d api.Dump
	for k := range api.MaxNodes + 1 {
		d.Nodes = append(d.Nodes, variable("v"+strconv.Itoa(k), 8))
		d.Roots = append(d.Roots, k)
	}
	if g, e := snapshot.Restore(d); g != nil || e != api.ErrFull {
		t.Error("too many nodes:", e)
	}
	if g, e := snapshot.Load(snapshot.Encode(d)); g != nil || e != api.ErrFull {
		t.Error("too many nodes:", e)
	}
	d.Links = []api.Link{{A: 0, B: -1}}
	if g, e := snapshot.Restore(d); g != nil || e != api.ErrForm {
		t.Error("too many nodes with a flaw:", e)
	}
	d = api.Dump{Nodes: d.Nodes[:api.MaxNodes], Roots: d.Roots[:api.MaxNodes]}
	if g, e := snapshot.Restore(d); e != api.OK || g.Len() != api.MaxNodes {
		t.Error("MaxNodes nodes:", e)
	}
}

// TestRestore checks P22.3 for the e-graph that is returned.
func TestRestore(t *testing.T) {
	d := good()
	g, e := snapshot.Restore(d)
	if e != api.OK || !g.Made() || g.Dirty() || !snapshot.Same(g.Dump(), good()) || g.Undo(0) || g.Mark() != 0 {
		t.Fatal(e, g.Dump())
	}
	d.Nodes[3].Args[0], d.Links[0].Why, d.Roots[1] = 0, 99, 7
	if !snapshot.Same(g.Dump(), good()) {
		t.Error("the e-graph shares memory with the dump")
	}
	// Undo does not go back beyond the restored state.
	g.Union(0, 2, 5)
	g.Rebuild()
	if !g.Undo(0) || !snapshot.Same(g.Dump(), good()) {
		t.Error(g.Dump())
	}
}

// TestSaveErrors checks the errors of Save (P22.4).
func TestSaveErrors(t *testing.T) {
	var zero egraph.Graph
	used := *egraph.New()
	for i, g := range []*egraph.Graph{nil, &zero, &used} {
		if b, e := snapshot.Save(g); len(b) != 0 || e != api.ErrNil {
			t.Errorf("%d: %v, %d", i, b, e)
		}
	}
	g, _ := snapshot.Restore(good())
	g.Union(0, 2, 0)
	if b, e := snapshot.Save(g); len(b) != 0 || e != api.ErrDirty {
		t.Error(b, e)
	}
	g.Rebuild()
	if b, e := snapshot.Save(g); e != api.OK || !bytes.Equal(b, snapshot.Encode(g.Dump())) {
		t.Error(b, e)
	}
}
