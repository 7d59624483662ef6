package isa_test

import (
	"math"
	"math/rand/v2"
	"regexp"
	"slices"
	"strconv"
	"strings"
	"testing"

	"saturate/api"
	"saturate/bits"
	"saturate/isa"
)

// TestPrint checks P48.3 for Print.
func TestPrint(t *testing.T) {
	want := "width 8 regs 4\nnop\nmovi r3 255\nmov r3 r0\nnot r3 r0\nneg r3 r0\nand r3 r0 r1\nor r3 r0 r1\nxor r3 r0 r1\nadd r3 r0 r1\nsub r3 r0 r1\nmul r3 r0 r1\ndiv r3 r0 r1\nrem r3 r0 r1\n" +
		"shl r3 r0 r1\nshr r3 r0 r1\nsar r3 r0 r1\neq r3 r0 r1\nult r3 r0 r1\nslt r3 r0 r1\nsel r3 r0 r1 r2\nout r3 r0 r2\n"
	c := all(8)
	if s := isa.Print(c); s != want {
		t.Errorf("all operations: %q", s)
	}
	if !isa.Same(c, all(8)) {
		t.Error("Print changes its argument")
	}
	for _, x := range []struct {
		c    api.Code
		want string
	}{
		{api.Code{}, "width 0 regs 0\nout\n"}, {api.Code{Width: 64, Regs: 8}, "width 64 regs 8\nout\n"}, {api.Code{Width: 8, Regs: 1, Out: []int{0}}, "width 8 regs 1\nout r0\n"}, {api.Code{Width: 64, Regs: 1, Ins: []api.Ins{{Op: api.MMovi, Imm: math.MaxUint64}}}, "width 64 regs 1\nmovi r0 18446744073709551615\nout\n"},
		// Programs that are not valid.
		{api.Code{Width: -3, Regs: math.MinInt, Ins: []api.Ins{{Op: 20, Dst: 1}, {Op: -1, Imm: 4}, {Dst: 7, A: 3, Imm: 9}}, Out: []int{-1, 9, 9}}, "width -3 regs -9223372036854775808\n\n\nnop\nout r-1 r9 r9\n"},
		{api.Code{Width: 1000, Regs: 10, Ins: []api.Ins{{Op: api.MSel, Dst: -1, A: 10, B: math.MaxInt, C: -20, Imm: 5}, {Op: api.MMovi, Dst: 12, A: 5, Imm: 999}, {Op: api.MNot, Dst: 2, A: -2, B: 7}}}, "width 1000 regs 10\nsel r-1 r10 r9223372036854775807 r-20\nmovi r12 999\nnot r2 r-2\nout\n"},
	} {
		if s := isa.Print(x.c); s != x.want {
			t.Errorf("%v: %q, not %q", x.c, s, x.want)
		}
	}
}

// numeral is a pattern for numerals of numbers from 0 on.
const numeral = `(0|[1-9][0-9]*)`

var (
	headLine = regexp.MustCompile(`\Awidth ` + numeral + ` regs ` + numeral + `\z`)
	outLine  = regexp.MustCompile(`\Aout(?: r` + numeral + `)*\z`)
	insLines = instructionForms()
)

// instructionForms returns patterns of the lines of the operations.
func instructionForms() []*regexp.Regexp {
	var list []*regexp.Regexp
	for n, o := range operations() {
		form := o.name
		if n > 0 {
			form += " r" + numeral
		}
		if n == 1 {
			form += " " + numeral
		}
		list = append(list, regexp.MustCompile(`\A`+form+strings.Repeat(" r"+numeral, o.sources)+`\z`))
	}
	return list
}

// isLine reports whether a line has a form, and no number that is too large. Only
// in a line with an immediate value there is a number with 64 bits.
func isLine(form *regexp.Regexp, line string, immediate bool) bool {
	if !form.MatchString(line) {
		return false
	}
	for _, field := range strings.Fields(line) {
		bitSize := 63
		if immediate && field[0] != 'r' {
			bitSize = 64
		}
		field = strings.TrimPrefix(field, "r")
		if field[0] < '0' || field[0] > '9' {
			continue
		}
		if _, err := strconv.ParseUint(field, 10, bitSize); err != nil {
			return false
		}
	}
	return true
}

// wantLine returns the first line that is not as described, or 0.
func wantLine(s string) int {
	lines := strings.Split(s, "\n")
	if lines[len(lines)-1] == "" {
		lines = lines[:len(lines)-1]
	}
	ended := false
	for i, line := range lines {
		ok := false
		if i == 0 {
			ok = isLine(headLine, line, false)
		} else if !ended {
			ended = isLine(outLine, line, false)
			ok = ended || slices.ContainsFunc(insLines, func(form *regexp.Regexp) bool { return isLine(form, line, strings.HasPrefix(line, "movi ")) })
		}
		if !ok {
			return i + 1
		}
	}
	if !ended {
		return len(lines) + 1
	}
	return 0
}

// checkParse checks Parse for a text.
func checkParse(t *testing.T, s string) {
	t.Helper()
	c, line, e := isa.Parse(s)
	if want := wantLine(s); want > 0 {
		if line != want || e != api.ErrParse || !isa.Same(c, api.Code{}) {
			t.Fatalf("Parse of %q is %v, %d, %d, but line %d has an error", s, c, line, e, want)
		}
		return
	}
	if e == api.OK {
		if text := isa.Print(c); line != 0 || text != s && text != s+"\n" {
			t.Fatalf("Parse of %q is %v, %d", s, c, line)
		}
		if at, e := isa.Check(c); at != 0 || e != api.OK {
			t.Fatalf("Parse of %q is not valid", s)
		}
	} else if e == api.ErrParse || line < 1 || !isa.Same(c, api.Code{}) {
		t.Fatalf("Parse of %q is %v, %d, %d", s, c, line, e)
	}
}

// randomCode returns a valid program.
func randomCode(r *rand.Rand) api.Code {
	c := api.Code{Width: 1 + r.IntN(64), Regs: 1 + r.IntN(8)}
	for range r.IntN(7) {
		i := api.Ins{Op: api.MOp(r.IntN(20))}
		for k, field := range []*int{&i.Dst, &i.A, &i.B, &i.C} {
			if k == 0 && i.Op > 0 || k > 0 && k <= operations()[i.Op].sources {
				*field = r.IntN(c.Regs)
			}
		}
		if i.Op == api.MMovi {
			i.Imm = bits.Cut(c.Width, r.Uint64()>>r.IntN(64))
		}
		c.Ins = append(c.Ins, i)
	}
	c.Out = r.Perm(c.Regs)[:r.IntN(c.Regs+1)]
	return c
}

// TestInverse checks P48.5, and P48.3 for texts that are nearly those of programs.
func TestInverse(t *testing.T) {
	r := rand.New(rand.NewPCG(48, 5))
	pieces := []string{"", " ", "\n", "r", "0", "1", "9", "-", "x", "0x", " r0", "nop\n", "out\n", "out", "99999999999999999999", "\t", "\r", "add"}
	for range 6000 {
		c := randomCode(r)
		s := isa.Print(c)
		for _, text := range []string{s, strings.TrimSuffix(s, "\n")} {
			if d, line, e := isa.Parse(text); line != 0 || e != api.OK || !isa.Same(c, d) {
				t.Fatalf("Parse of %q is %v, %d, %d", text, d, line, e)
			}
			checkParse(t, text)
		}
		from := r.IntN(len(s) + 1)
		to := min(from+r.IntN(3), len(s))
		checkParse(t, s[:from]+pieces[r.IntN(len(pieces))]+s[to:])
		checkParse(t, s[:from])
	}
	for _, w := range []int{1, 64} {
		c := all(w)
		for len(c.Ins) < api.MaxCode {
			c.Ins = append(c.Ins, api.Ins{Op: api.MMovi, Dst: 3, Imm: bits.Mask(w)})
		}
		if d, line, e := isa.Parse(isa.Print(c)); line != 0 || e != api.OK || !isa.Same(c, d) {
			t.Error("the greatest program:", line, e)
		}
	}
}

// TestParseErrors checks ErrParse of P48.3.
func TestParseErrors(t *testing.T) {
	const head = "width 8 regs 2\n"
	for s, want := range map[string]int{
		"": 1, "\n": 1, "x": 1, "out\n": 1, "nop\n": 1, " width 8 regs 2\nout\n": 1, "width 8 regs 2 \nout\n": 1, "width  8 regs 2\nout\n": 1, "width 8 regs\nout\n": 1, "width 8\nout\n": 1, "width\nout\n": 1, "regs 2 width 8\nout\n": 1, "width 8 regs 2 3\nout\n": 1, "Width 8 regs 2\nout\n": 1, "width 8 Regs 2\nout\n": 1,
		"width 08 regs 2\nout\n": 1, "width 8 regs 02\nout\n": 1, "width 0x8 regs 2\nout\n": 1, "width -8 regs 2\nout\n": 1, "width +8 regs 2\nout\n": 1, "width r8 regs 2\nout\n": 1, "width 9223372036854775808 regs 2\nout\n": 1, "width 8 regs 9223372036854775808\nout\n": 1, "width 8 regs -0\nout\n": 1, "width 8 regs 2\r\nout\n": 1, "width 8\nregs 2\nout\n": 1, "width\t8 regs 2\nout\n": 1, "width 8 regs \nout\n": 1,
		head: 2, strings.TrimSuffix(head, "\n"): 2, head + "nop": 3, head + "nop\n": 3, head + "nop\nnop\n": 4, head + "\n": 2, head + "\nout\n": 2, head + "nop\n\nout\n": 3, head + "width 8 regs 2\nout\n": 2, head + "foo r0 r0\nout\n": 2, head + "nop \nout\n": 2, head + " nop\nout\n": 2, head + "nop r0\nout\n": 2, head + "NOP\nout\n": 2, head + "hole r0\nout\n": 2,
		head + "add r0 r1\nout\n": 2, head + "add r0 r1 r1 r1\nout\n": 2, head + "add r0  r1 r1\nout\n": 2, head + "add r0 r1 r1 \nout\n": 2, head + "add 0 r1 r1\nout\n": 2, head + "add r0 r1 1\nout\n": 2, head + "add r0 R1 r1\nout\n": 2, head + "add r0 r r1\nout\n": 2, head + "add r0 r01 r1\nout\n": 2, head + "add r0 r-1 r1\nout\n": 2, head + "add r0 r0x1 r1\nout\n": 2, head + "add r0 rr1 r1\nout\n": 2, head + "add r0,r1,r1\nout\n": 2, head + "add\nout\n": 2, head + "add r9223372036854775808 r0 r0\nout\n": 2,
		head + "movi r0\nout\n": 2, head + "movi r0 r1\nout\n": 2, head + "movi 5 r0\nout\n": 2, head + "movi r0 5 5\nout\n": 2, head + "movi r0 05\nout\n": 2, head + "movi r0 0x5\nout\n": 2, head + "movi r0 0x0\nout\n": 2, head + "movi r0 -5\nout\n": 2, head + "movi r0 18446744073709551616\nout\n": 2, head + "movi r0 \nout\n": 2, head + "sel r0 r0 r0\nout\n": 2, head + "not r0 r0 r0\nout\n": 2, head + "movi r0 5\r\nout\n": 2, head + "nop\nmovi r0 x\nfoo\n": 3,
		head + "out \n": 2, head + "out r0 \n": 2, head + "out  r0\n": 2, head + "out r0  r1\n": 2, head + "out 0\n": 2, head + "out r0 1\n": 2, head + "out r00\n": 2, head + "out r\n": 2, head + "out r0,r1\n": 2, head + "outr0\n": 2, head + "out r9223372036854775808\n": 2, head + "Out\n": 2, head + "out\tr0\n": 2,
		head + "out\n\n": 3, head + "out\nout\n": 3, head + "out r0\nnop\n": 3, head + "nop\nout\n ": 4, head + "out\nout": 3, head + "out\nwidth 8 regs 2\nout\n": 3, head + "out\nfoo\nfoo\n": 3,
		// A line that is not as described comes before what Check finds.
		"width 65 regs 2\nadd\nout\n": 2, "width 8 regs 0\nmovi r0 256\nout r9 r9\nnop\n": 4, head + "movi r9 256\nmovi r0 1\nout x\n": 4, "width 8 regs 9\n": 2,
	} {
		c, line, e := isa.Parse(s)
		if line != want || e != api.ErrParse || !isa.Same(c, api.Code{}) || wantLine(s) != want {
			t.Errorf("Parse of %q is %v, %d, %d, not line %d", s, c, line, e, want)
		}
	}
}

// TestParseCheck checks that Parse returns the errors of Check with their lines (P48.3).
func TestParseCheck(t *testing.T) {
	long := "width 8 regs 2\n" + strings.Repeat("nop\n", 257) + "out\n"
	for _, x := range []struct {
		s    string
		line int
		want api.Errno
	}{
		{"width 0 regs 2\nout\n", 1, api.ErrWidth}, {"width 65 regs 9\nmovi r9 1\nout\n", 1, api.ErrWidth}, {"width 9223372036854775807 regs 9223372036854775807\nout\n", 1, api.ErrWidth}, {"width 8 regs 0\nout\n", 1, api.ErrReg}, {"width 8 regs 9223372036854775807\nnop\nout\n", 1, api.ErrReg}, {long, 1, api.ErrLong}, {strings.Replace(long, "nop", "add r9 r9 r9", 1), 1, api.ErrLong},
		{"width 8 regs 2\nadd r2 r0 r0\nout\n", 2, api.ErrReg}, {"width 8 regs 2\nnop\nadd r0 r0 r9223372036854775807\nout\n", 3, api.ErrReg}, {"width 8 regs 2\nnop\nnop\nmovi r1 256\nmovi r2 0\nout\n", 4, api.ErrRange}, {"width 63 regs 1\nmovi r0 18446744073709551615\nout\n", 2, api.ErrRange},
		{"width 8 regs 2\nnop\nout r2\n", 1, api.ErrReg}, {"width 8 regs 2\nnop\nout r1 r1\n", 1, api.ErrDup}, {"width 8 regs 2\nnop\nout r0 r0 r2", 1, api.ErrReg},
	} {
		if c, line, e := isa.Parse(x.s); line != x.line || e != x.want || !isa.Same(c, api.Code{}) {
			t.Errorf("Parse of %q is %v, %d, %d, not %d, %d", x.s, c, line, e, x.line, x.want)
		}
	}
}

// TestParseLong checks ErrLong of P48.3, which comes first.
func TestParseLong(t *testing.T) {
	for n, want := range map[int]api.Errno{65535: api.ErrParse, 65536: api.ErrParse, 65537: api.ErrLong, 200000: api.ErrLong} {
		line := 1
		if want == api.ErrLong {
			line = 0
		}
		if c, at, e := isa.Parse(strings.Repeat("x", n)); at != line || e != want || !isa.Same(c, api.Code{}) {
			t.Errorf("a text of %d bytes: %d, %d", n, at, e)
		}
	}
	// A text at the limit is read to its end.
	s := "width 8 regs 2\n" + strings.Repeat("nop\n", 16379)
	if c, line, e := isa.Parse(s + "out\n"); len(s) != 65531 || line != 1 || e != api.ErrLong || !isa.Same(c, api.Code{}) {
		t.Error("too many instructions:", len(s), line, e)
	}
	if c, line, e := isa.Parse(s + "out\n\n"); line != 16382 || e != api.ErrParse || !isa.Same(c, api.Code{}) {
		t.Error("a text of 65536 bytes:", line, e)
	}
	if c, line, e := isa.Parse(s + "out\n\n\n"); line != 0 || e != api.ErrLong || !isa.Same(c, api.Code{}) {
		t.Error("a text of 65537 bytes:", line, e)
	}
	example := "width 8 regs 2\nadd r0 r0 r1\nout r0\n"
	if c, line, e := isa.Parse(example); line != 0 || e != api.OK || len(c.Ins) != 1 || isa.Cost(c) != 1 || isa.Print(c) != example {
		t.Error("the example:", c, line, e)
	}
}
