package isa

import (
	"strings"

	"saturate/api"
	"saturate/digits"
)

// The words of the text of a program that are no names of operations.
const (
	widthWord = "width"
	regsWord  = "regs"
	outWord   = "out"
)

// Print is specified in P48.3.
func Print(c api.Code) string {
	var text strings.Builder
	writeLine(&text, widthWord, digits.Int(c.Width), regsWord, digits.Int(c.Regs))
	for _, i := range c.Ins {
		writeLine(&text, fieldsOf(i)...)
	}
	writeLine(&text, append([]string{outWord}, registers(c.Out...)...)...)
	return text.String()
}

func writeLine(text *strings.Builder, fields ...string) {
	text.WriteString(strings.Join(fields, " "))
	text.WriteByte('\n')
}

// fieldsOf returns the fields of the line of an instruction, an empty one for an
// unknown operation.
func fieldsOf(i api.Ins) []string {
	fields := []string{Name(i.Op)}
	if dst, ok := Def(i); ok {
		fields = append(fields, registers(dst)...)
	}
	if i.Op == api.MMovi {
		fields = append(fields, digits.Dec(i.Imm))
	}
	return append(fields, registers(Uses(i)...)...)
}

// registers returns registers as fields of a line.
func registers(l ...int) []string {
	var fields []string
	for _, r := range l {
		fields = append(fields, "r"+digits.Int(r))
	}
	return fields
}

// Parse is specified in P48.3.
func Parse(s string) (api.Code, int, api.Errno) {
	if len(s) > api.MaxText {
		return api.Code{}, 0, api.ErrLong
	}
	c, line := read(s)
	if line > 0 {
		return api.Code{}, line, api.ErrParse
	}
	if at, e := Check(c); e != api.OK {
		return api.Code{}, at + 2, e // the first line for -1
	}
	return c, 0, api.OK
}

// read returns the program with a text, which need not be valid, and 0; or some
// program and the number of the first line that is not as described.
func read(s string) (c api.Code, line int) {
	ended := false
	for text := range strings.Lines(s) {
		line++
		r := &reader{rest: strings.Split(strings.TrimSuffix(text, "\n"), " ")}
		switch {
		case line == 1:
			r.head(&c)
		case r.rest[0] == outWord:
			r.require(!ended)
			r.out(&c)
			ended = true
		default:
			r.require(!ended)
			c.Ins = append(c.Ins, r.instruction())
		}
		if r.bad || len(r.rest) > 0 {
			return c, line
		}
	}
	if !ended {
		return c, line + 1
	}
	return c, 0
}

// reader has the fields of a line that have not been read yet. It is bad if one
// that has been read was not as described.
type reader struct {
	rest []string
	bad  bool
}

// require makes the reader bad unless a condition holds.
func (r *reader) require(holds bool) {
	r.bad = r.bad || !holds
}

// next reads a field. One that is missing is read as an empty one, which no
// line can have.
func (r *reader) next() string {
	if len(r.rest) == 0 {
		return ""
	}
	field := r.rest[0]
	r.rest = r.rest[1:]
	return field
}

// head reads the first line of a program.
func (r *reader) head(c *api.Code) {
	r.require(r.next() == widthWord)
	c.Width = r.number(r.next())
	r.require(r.next() == regsWord)
	c.Regs = r.number(r.next())
}

// out reads the last line of a program.
func (r *reader) out(c *api.Code) {
	r.require(r.next() == outWord)
	for len(r.rest) > 0 {
		c.Out = append(c.Out, r.register())
	}
}

func (r *reader) instruction() api.Ins {
	op, known := Of(r.next())
	r.require(known)
	i := api.Ins{Op: op}
	if defines(op) {
		i.Dst = r.register()
	}
	if op == api.MMovi {
		i.Imm = r.immediate()
	}
	for _, source := range []*int{&i.A, &i.B, &i.C}[:Sources(op)] {
		*source = r.register()
	}
	return i
}

func (r *reader) register() int {
	numeral, found := strings.CutPrefix(r.next(), "r")
	r.require(found)
	return r.number(numeral)
}

// number returns what a decimal numeral denotes, if an int can be as large.
func (r *reader) number(numeral string) int {
	n, e := digits.ParseInt(numeral)
	r.require(e == api.OK && n >= 0)
	return n
}

func (r *reader) immediate() uint64 {
	numeral := r.next()
	x, e := digits.Parse(numeral)
	r.require(e == api.OK && digits.Dec(x) == numeral) // which is not hexadecimal
	return x
}
