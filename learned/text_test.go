package learned_test

import (
	"slices"
	"strings"
	"testing"

	"saturate/api"
	"saturate/learned"
)

// The texts of two programs, of which the second one may replace the first one.
const (
	twice = "width 2 regs 1\nnot r0 r0\nnot r0 r0\nout r0\n"
	none  = "width 2 regs 1\nout r0\n"
)

// TestPrint checks Print (P55.4).
func TestPrint(t *testing.T) {
	all := valid(t)
	const zero = "swap\nwidth 2 regs 2\nmov r1 r0\nsub r1 r1 r0\nout r1\nto\nwidth 2 regs 2\nmovi r1 0\nout r1\n"
	for _, x := range []struct {
		l    []api.Swap
		want string
	}{
		{nil, ""}, {all[1:2], "swap\n" + twice + "to\n" + none}, {all[1:3], "swap\n" + twice + "to\n" + none + zero},
		{[]api.Swap{all[2], {Width: 9, From: api.Code{Width: -1, Ins: []api.Ins{{Op: 99}}}}}, zero + "swap\nwidth -1 regs 0\n\nout\nto\nwidth 0 regs 0\nout\n"},
	} {
		if s := learned.Print(x.l); s != x.want {
			t.Errorf("%q, not %q", s, x.want)
		}
	}
}

// TestInverse checks that Parse inverts Print (P55.5).
func TestInverse(t *testing.T) {
	all := valid(t)
	for from := range all {
		for to := from; to <= len(all); to++ {
			text := learned.Print(all[from:to])
			for _, s := range []string{text, strings.TrimSuffix(text, "\n")} {
				if l, at, e := learned.Parse(s); !slices.EqualFunc(l, all[from:to], same) || at != 0 || e != api.OK {
					t.Errorf("%q: %v, %d, %d", s, l, at, e)
				}
			}
		}
	}
}

// TestParseErrors checks the errors of Parse, their order and the numbers of the swaps (P55.4).
func TestParseErrors(t *testing.T) {
	const good = "swap\n" + twice + "to\n" + none
	all := valid(t)
	later := learned.Print(all[2:3])
	long := "swap\nwidth 2 regs 1\n" + strings.Repeat("not r0 r0\n", 256)
	for i, x := range []struct {
		text string
		at   int
		want api.Errno
	}{
		{"", 0, api.OK}, {good, 0, api.OK}, {good + later, 0, api.OK}, {learned.Print(all), 0, api.OK},
		// the lines
		{"from\n", 1, api.ErrParse}, {"\n", 1, api.ErrParse}, {"swap", 1, api.ErrParse}, {"swap\n", 1, api.ErrParse}, {"to\n", 1, api.ErrParse}, {"to\nswap\n", 1, api.ErrParse}, {"\n" + good, 1, api.ErrParse}, {twice + good, 1, api.ErrParse}, {" " + good, 1, api.ErrParse}, {"swap \n" + twice + "to\n" + none, 1, api.ErrParse}, {"swap\r\n" + twice + "to\n" + none, 1, api.ErrParse}, {"Swap\n" + twice + "to\n" + none, 1, api.ErrParse},
		{"swap\n" + twice + none, 1, api.ErrParse}, {"swap\n" + twice + " to\n" + none, 1, api.ErrParse}, {"swap\n" + twice + "to \n" + none, 1, api.ErrParse}, {"swap\n" + twice + "to\n" + none + "to\n" + none, 1, api.ErrParse}, {good + "to", 1, api.ErrParse}, {"swap\nto\n" + twice + "to\n" + none, 1, api.ErrParse}, {"swap\nto\nto\n", 1, api.ErrParse},
		{"swap\n" + good, 1, api.ErrParse}, {good + "swap", 2, api.ErrParse}, {good + "swap\n", 2, api.ErrParse}, {good + "swap\nto", 2, api.ErrParse}, {good + "swap\n" + twice, 2, api.ErrParse}, {good + later + "swap\nswap\n", 3, api.ErrParse},
		// They come before the errors of the programs.
		{"swap\nwidth 99 regs 1\nout\nto\nto\n", 1, api.ErrParse}, {"swap\nwidth 99 regs 1\nout\n", 1, api.ErrParse}, {"swap\nwidth 99 regs 1\nout\nswap\nto\n", 1, api.ErrParse},
		// the programs, From first
		{"swap\nto\n" + none, 1, api.ErrParse}, {"swap\n" + twice + "to\n", 1, api.ErrParse}, {"swap\n" + twice + "to", 1, api.ErrParse}, {"swap\n" + twice + "\nto\n" + none, 1, api.ErrParse}, {good + "\n", 1, api.ErrParse}, {good + "\n" + later, 1, api.ErrParse}, {"swap\n\n" + twice + "to\n" + none, 1, api.ErrParse},
		{"swap\nwidth 99 regs 1\nout\nto\nfoo\n", 1, api.ErrWidth}, {"swap\nfoo\nto\nwidth 99 regs 1\nout\n", 1, api.ErrParse}, {"swap\n" + twice + "to\nwidth 2 regs 9\nout r0\n", 1, api.ErrReg}, {"swap\nwidth 2 regs 1\nmovi r0 4\nout r0\nto\n" + none, 1, api.ErrRange}, {"swap\n" + twice + "to\nwidth 2 regs 1\nout r0 r0\n", 1, api.ErrDup},
		{long + "out\nto\n" + none, 1, api.ErrArg}, {long + "not r0 r0\nout\nto\n" + none, 1, api.ErrLong}, {"swap\n" + strings.Repeat("not r0 r0\n", 6554) + "to\n" + none, 1, api.ErrLong}, {"swap\n" + strings.Repeat("not r0 r0\n", 6553) + "to\n" + none, 1, api.ErrParse}, {"swap\n" + twice + "to\n" + strings.Repeat("\n", api.MaxText+1), 1, api.ErrLong},
		// those of Valid
		{"swap\n" + twice + "to\nwidth 3 regs 1\nout r0\n", 1, api.ErrWidth}, {"swap\nwidth 2 regs 2\nnot r1 r1\nout r1\nto\nwidth 2 regs 2\nout r1\n", 1, api.ErrForm}, {"swap\n" + twice + "to\n" + twice, 1, api.ErrArg}, {"swap\nwidth 2 regs 1\nnot r0 r0\nout r0\nto\n" + none, 1, api.ErrUnsound}, {"swap\nwidth 17 regs 1\nmul r0 r0 r0\nout r0\nto\nwidth 17 regs 1\nout r0\n", 1, api.ErrLong},
		{good + "swap\nwidth 2 regs 1\nnot r0 r0\nout r0\nto\n" + none, 2, api.ErrUnsound}, {good + later + "swap\n" + twice + "to\nwidth 3 regs 1\nout r0\n", 3, api.ErrWidth},
		// the order
		{good + good, 2, api.ErrDup}, {later + good, 2, api.ErrDup}, {good + later + later, 3, api.ErrDup}, {good + later + good + "foo", 3, api.ErrParse}, {learned.Print([]api.Swap{all[1], all[0]}), 2, api.ErrDup}, {learned.Print([]api.Swap{all[4], all[3]}), 2, api.ErrDup}, {learned.Print([]api.Swap{all[0], all[1], all[1]}), 3, api.ErrDup},
		// The first swap counts.
		{good + good + "foo", 2, api.ErrParse}, {good + good + "swap\n", 2, api.ErrDup}, {good + "swap\n" + later + "foo", 2, api.ErrParse},
	} {
		l, at, e := learned.Parse(x.text)
		if at != x.at || e != x.want || e != api.OK && len(l) != 0 {
			t.Errorf("case %d: %v, %d, %d, not %d, %d", i, l, at, e, x.at, x.want)
		}
	}
}

// TestLongList checks that a list may have a text of any length (P55.4).
func TestLongList(t *testing.T) {
	var l []api.Swap
	for k := range uint64(1000) {
		s := swap(t, "width 5 regs 1\nmovi r0 0\nmovi r0 0\nmovi r0 0\nout r0\n", "width 5 regs 1\nmovi r0 0\nout r0\n")
		s.From.Ins[0].Imm, s.From.Ins[1].Imm = k/32, k%32
		l = append(l, s)
	}
	slices.SortFunc(l, learned.Compare)
	text := learned.Print(l)
	if len(text) <= api.MaxText {
		t.Fatal(len(text))
	}
	if again, at, e := learned.Parse(text); !slices.EqualFunc(again, l, same) || at != 0 || e != api.OK {
		t.Error(len(again), at, e)
	}
	if _, at, e := learned.Parse(text + "swap"); at != 1001 || e != api.ErrParse {
		t.Error(at, e)
	}
}
